/-
  The reference's state: Check.
-/
import Derived.Test.YthedglfocjljjaaGreatDoorSrb
import Derived.Test.YthedglfocjljjaaGreatDoorTra
import Derived.Test.YthedglfocjljjaaGreatDoorMgd
namespace Go.Proofs.YthedglfocjljjaaGreatDoor
open Go.RowKit

structure Few (s : St) : Prop where
  dm : s.dm.length ≤ 100
  op : s.op.length ≤ 100
  ip : s.ip.length ≤ 100
  cb : s.cb.length ≤ 1000
  bf : s.bf.length ≤ 1000
  px : ∀ x ∈ s.bf, x.l.length ≤ 100000

set_option maxRecDepth 100000 in
set_option maxHeartbeats 16000000 in
theorem rchk_any {w : World} {s : St} {L : List Bv} {vb vd vo vi vc : Value} (h : StAt w s L vb vd vo vi vc) (hf : Few s) :
    Calls Tryz.prog 13 #[stV s vb vd vo vi vc] w fun e w' => e = .returned (.int .i64 (chkS s)) ∧ Below w.heap.size w w' := by
  have T1 := fun (W : World) => Lib.hid (Trf.rvalidt_any s.tr W)
  have S := fun (W : World) (_ : Below w.heap.size w W) => Lib.hid (sides_any s.dx s.dy W)
  have W1 := fun (W : World) (hb : Below w.heap.size w W) => Lib.hid (wide_any (sn_rs (h.dm.below hb)) (by have := hf.dm; omega))
  have W2 := fun (W : World) (hb : Below w.heap.size w W) => Lib.hid (wide_any (sn_rs (h.op.below hb)) (by have := hf.op; omega))
  have W3 := fun (W : World) (hb : Below w.heap.size w W) => Lib.hid (wide_any (sn_rs (h.ip.below hb)) (by have := hf.ip; omega))
  have HB := Lib.hid h.bf
  have HPX := Lib.hid h.px
  have HEQ := Lib.hid h.eq
  obtain ⟨A, c, rfl, h1, h2⟩ := h.bf.shape
  obtain ⟨Ad, cd, rfl, hd1, hd2⟩ := h.dm.shape
  obtain ⟨Ao, co, rfl, ho1, ho2⟩ := h.op.shape
  obtain ⟨Ai, ci, rfl, hi1, hi2⟩ := h.ip.shape
  obtain ⟨Ac, cc, rfl, hc1, hc2⟩ := h.cb.shape
  simp only [maxLen] at h2 hd2 ho2 hi2 hc2
  have hlen := h.len
  obtain ⟨set, bf, sc, tr, dm, op, is, ip, dx, dy, cb⟩ := s
  dsimp only at T1 S W1 W2 W3 HEQ hlen hd1 ho1 hi1 hc1 hd2 ho2 hi2 hc2 ⊢
  have J0 := Lib.hid ((HO.nil w).alloc (stC ⟨set, bf, sc, tr, dm, op, is, ip, dx, dy, cb⟩ (.slice A L.length c) (.slice Ad dm.length cd) (.slice Ao op.length co) (.slice Ai ip.length ci) (.slice Ac cb.length cc)) 28)
  clear h hf
  generalize dm.length = nd at *
  generalize op.length = no at *
  generalize ip.length = ni at *
  generalize cb.length = nc at *
  by_cases a1 : 1 ≤ sc
  · by_cases a2 : sc ≤ 4
    · cases a3 : Trf.vT tr with
      | false =>
        rw [a3] at T1
        have J := J0
        have hl2 : bf.length = L.length := hlen
        have ec : chkS ⟨set, bf, sc, tr, dm, op, is, ip, dx, dy, cb⟩ = 2 := by simp [chkS, argB, a3]
        rw [ec]
        clear ec
        go_enter Tryz.func13, Tryz.ntmps13
        go_wp2_with fail
        refine (T1 _).out.mono ?_
        rintro e w1 ⟨rfl, rfl⟩
        go_wp2_with fail
        go_ret
        exact ⟨rfl, J.out.below⟩
      | true =>
        rw [a3] at T1
        by_cases a4 : 1 < L.length
        · have J := J0
          have a5 : ¬ bf.length ≤ 1 := by omega
          generalize L.length = n at *
          have ec : chkS ⟨set, bf, sc, tr, dm, op, is, ip, dx, dy, cb⟩ = 2 := by simp [chkS, argB, a5]
          rw [ec]
          clear ec
          go_enter Tryz.func13, Tryz.ntmps13
          go_wp2_with fail
          refine (T1 _).out.mono ?_
          rintro e w1 ⟨rfl, rfl⟩
          go_wp2_with fail
          go_ret
          exact ⟨rfl, J.out.below⟩
        · match L, HB, HPX, HEQ, hlen, a4, h1, J0 with
          | [], HB, HPX, HEQ, hlen, a4, h1, J0 =>
            have a6 : bf = [] := HEQ.out.symm
            simp only [List.length_nil] at J0 h1
            have J := J0
            cases e3 : sidB dx dy with
            | false =>
              rw [e3] at S
              have ec : chkS ⟨set, bf, sc, tr, dm, op, is, ip, dx, dy, cb⟩ = 6 := by simp [chkS, argB, bufB, bfB, a1, a2, a3, a6, e3]
              rw [ec]
              clear ec
              go_enter Tryz.func13, Tryz.ntmps13
              go_wp2_with fail
              refine (T1 _).out.mono ?_
              rintro e w1 ⟨rfl, rfl⟩
              go_wp2_with fail
              refine (S _ J.out.below).out.mono ?_
              rintro e w2 ⟨rfl, hb⟩
              replace J := Lib.hid (J.out.step hb)
              clear hb
              obtain ⟨x0, x1, x2, x3, x4, x5, x6, x7, x8, x9, x10, xf, xl⟩ := (show HO w w2 ([] ++ boxO w.heap.size [_, _, _, _, _, _, _, _, _, _, _] :: []) from J.out).c11
              go_wp2_with fail
              go_ret
              exact ⟨rfl, J.out.below⟩
            | true =>
              rw [e3] at S
              cases e4 : wideB dm with
              | true =>
                rw [e4] at W1
                have ec : chkS ⟨set, bf, sc, tr, dm, op, is, ip, dx, dy, cb⟩ = 5 := by simp [chkS, argB, bufB, bfB, manyB, a1, a2, a3, a6, e3, e4]
                rw [ec]
                clear ec
                go_enter Tryz.func13, Tryz.ntmps13
                go_wp2_with fail
                refine (T1 _).out.mono ?_
                rintro e w1 ⟨rfl, rfl⟩
                go_wp2_with fail
                refine (S _ J.out.below).out.mono ?_
                rintro e w2 ⟨rfl, hb⟩
                replace J := Lib.hid (J.out.step hb)
                clear hb
                obtain ⟨x0, x1, x2, x3, x4, x5, x6, x7, x8, x9, x10, xf, xl⟩ := (show HO w w2 ([] ++ boxO w.heap.size [_, _, _, _, _, _, _, _, _, _, _] :: []) from J.out).c11
                go_wp2_with fail
                refine (W1 _ J.out.below).out.mono ?_
                rintro e w3 ⟨rfl, hb⟩
                replace J := Lib.hid (J.out.step hb)
                clear hb x0 x1 x2 x3 x4 x5 x6 x7 x8 x9 x10 xf xl
                obtain ⟨x0, x1, x2, x3, x4, x5, x6, x7, x8, x9, x10, xf, xl⟩ := (show HO w w3 ([] ++ boxO w.heap.size [_, _, _, _, _, _, _, _, _, _, _] :: []) from J.out).c11
                go_wp2_with fail
                go_ret
                exact ⟨rfl, J.out.below⟩
              | false =>
                rw [e4] at W1
                cases e5 : wideB op with
                | true =>
                  rw [e5] at W2
                  have ec : chkS ⟨set, bf, sc, tr, dm, op, is, ip, dx, dy, cb⟩ = 5 := by simp [chkS, argB, bufB, bfB, manyB, a1, a2, a3, a6, e3, e4, e5]
                  rw [ec]
                  clear ec
                  go_enter Tryz.func13, Tryz.ntmps13
                  go_wp2_with fail
                  refine (T1 _).out.mono ?_
                  rintro e w1 ⟨rfl, rfl⟩
                  go_wp2_with fail
                  refine (S _ J.out.below).out.mono ?_
                  rintro e w2 ⟨rfl, hb⟩
                  replace J := Lib.hid (J.out.step hb)
                  clear hb
                  obtain ⟨x0, x1, x2, x3, x4, x5, x6, x7, x8, x9, x10, xf, xl⟩ := (show HO w w2 ([] ++ boxO w.heap.size [_, _, _, _, _, _, _, _, _, _, _] :: []) from J.out).c11
                  go_wp2_with fail
                  refine (W1 _ J.out.below).out.mono ?_
                  rintro e w3 ⟨rfl, hb⟩
                  replace J := Lib.hid (J.out.step hb)
                  clear hb x0 x1 x2 x3 x4 x5 x6 x7 x8 x9 x10 xf xl
                  obtain ⟨x0, x1, x2, x3, x4, x5, x6, x7, x8, x9, x10, xf, xl⟩ := (show HO w w3 ([] ++ boxO w.heap.size [_, _, _, _, _, _, _, _, _, _, _] :: []) from J.out).c11
                  go_wp2_with fail
                  refine (W2 _ J.out.below).out.mono ?_
                  rintro e w4 ⟨rfl, hb⟩
                  replace J := Lib.hid (J.out.step hb)
                  clear hb x0 x1 x2 x3 x4 x5 x6 x7 x8 x9 x10 xf xl
                  obtain ⟨x0, x1, x2, x3, x4, x5, x6, x7, x8, x9, x10, xf, xl⟩ := (show HO w w4 ([] ++ boxO w.heap.size [_, _, _, _, _, _, _, _, _, _, _] :: []) from J.out).c11
                  go_wp2_with fail
                  go_ret
                  exact ⟨rfl, J.out.below⟩
                | false =>
                  rw [e5] at W2
                  cases is with
                  | false =>
                    have ec : chkS ⟨set, bf, sc, tr, dm, op, false, ip, dx, dy, cb⟩ = 0 := by simp [chkS, argB, bufB, bfB, manyB, a1, a2, a3, a6, e3, e4, e5]
                    rw [ec]
                    clear ec
                    go_enter Tryz.func13, Tryz.ntmps13
                    go_wp2_with fail
                    refine (T1 _).out.mono ?_
                    rintro e w1 ⟨rfl, rfl⟩
                    go_wp2_with fail
                    refine (S _ J.out.below).out.mono ?_
                    rintro e w2 ⟨rfl, hb⟩
                    replace J := Lib.hid (J.out.step hb)
                    clear hb
                    obtain ⟨x0, x1, x2, x3, x4, x5, x6, x7, x8, x9, x10, xf, xl⟩ := (show HO w w2 ([] ++ boxO w.heap.size [_, _, _, _, _, _, _, _, _, _, _] :: []) from J.out).c11
                    go_wp2_with fail
                    refine (W1 _ J.out.below).out.mono ?_
                    rintro e w3 ⟨rfl, hb⟩
                    replace J := Lib.hid (J.out.step hb)
                    clear hb x0 x1 x2 x3 x4 x5 x6 x7 x8 x9 x10 xf xl
                    obtain ⟨x0, x1, x2, x3, x4, x5, x6, x7, x8, x9, x10, xf, xl⟩ := (show HO w w3 ([] ++ boxO w.heap.size [_, _, _, _, _, _, _, _, _, _, _] :: []) from J.out).c11
                    go_wp2_with fail
                    refine (W2 _ J.out.below).out.mono ?_
                    rintro e w4 ⟨rfl, hb⟩
                    replace J := Lib.hid (J.out.step hb)
                    clear hb x0 x1 x2 x3 x4 x5 x6 x7 x8 x9 x10 xf xl
                    obtain ⟨x0, x1, x2, x3, x4, x5, x6, x7, x8, x9, x10, xf, xl⟩ := (show HO w w4 ([] ++ boxO w.heap.size [_, _, _, _, _, _, _, _, _, _, _] :: []) from J.out).c11
                    go_wp2_with fail
                    go_ret
                    exact ⟨rfl, J.out.below⟩
                  | true =>
                    cases e7 : wideB ip with
                    | true =>
                      rw [e7] at W3
                      have ec : chkS ⟨set, bf, sc, tr, dm, op, true, ip, dx, dy, cb⟩ = 5 := by simp [chkS, argB, bufB, bfB, manyB, a1, a2, a3, a6, e3, e4, e5, e7]
                      rw [ec]
                      clear ec
                      go_enter Tryz.func13, Tryz.ntmps13
                      go_wp2_with fail
                      refine (T1 _).out.mono ?_
                      rintro e w1 ⟨rfl, rfl⟩
                      go_wp2_with fail
                      refine (S _ J.out.below).out.mono ?_
                      rintro e w2 ⟨rfl, hb⟩
                      replace J := Lib.hid (J.out.step hb)
                      clear hb
                      obtain ⟨x0, x1, x2, x3, x4, x5, x6, x7, x8, x9, x10, xf, xl⟩ := (show HO w w2 ([] ++ boxO w.heap.size [_, _, _, _, _, _, _, _, _, _, _] :: []) from J.out).c11
                      go_wp2_with fail
                      refine (W1 _ J.out.below).out.mono ?_
                      rintro e w3 ⟨rfl, hb⟩
                      replace J := Lib.hid (J.out.step hb)
                      clear hb x0 x1 x2 x3 x4 x5 x6 x7 x8 x9 x10 xf xl
                      obtain ⟨x0, x1, x2, x3, x4, x5, x6, x7, x8, x9, x10, xf, xl⟩ := (show HO w w3 ([] ++ boxO w.heap.size [_, _, _, _, _, _, _, _, _, _, _] :: []) from J.out).c11
                      go_wp2_with fail
                      refine (W2 _ J.out.below).out.mono ?_
                      rintro e w4 ⟨rfl, hb⟩
                      replace J := Lib.hid (J.out.step hb)
                      clear hb x0 x1 x2 x3 x4 x5 x6 x7 x8 x9 x10 xf xl
                      obtain ⟨x0, x1, x2, x3, x4, x5, x6, x7, x8, x9, x10, xf, xl⟩ := (show HO w w4 ([] ++ boxO w.heap.size [_, _, _, _, _, _, _, _, _, _, _] :: []) from J.out).c11
                      go_wp2_with fail
                      refine (W3 _ J.out.below).out.mono ?_
                      rintro e w5 ⟨rfl, hb⟩
                      replace J := Lib.hid (J.out.step hb)
                      clear hb x0 x1 x2 x3 x4 x5 x6 x7 x8 x9 x10 xf xl
                      obtain ⟨x0, x1, x2, x3, x4, x5, x6, x7, x8, x9, x10, xf, xl⟩ := (show HO w w5 ([] ++ boxO w.heap.size [_, _, _, _, _, _, _, _, _, _, _] :: []) from J.out).c11
                      go_wp2_with fail
                      go_ret
                      exact ⟨rfl, J.out.below⟩
                    | false =>
                      rw [e7] at W3
                      have ec : chkS ⟨set, bf, sc, tr, dm, op, true, ip, dx, dy, cb⟩ = 0 := by simp [chkS, argB, bufB, bfB, manyB, a1, a2, a3, a6, e3, e4, e5, e7]
                      rw [ec]
                      clear ec
                      go_enter Tryz.func13, Tryz.ntmps13
                      go_wp2_with fail
                      refine (T1 _).out.mono ?_
                      rintro e w1 ⟨rfl, rfl⟩
                      go_wp2_with fail
                      refine (S _ J.out.below).out.mono ?_
                      rintro e w2 ⟨rfl, hb⟩
                      replace J := Lib.hid (J.out.step hb)
                      clear hb
                      obtain ⟨x0, x1, x2, x3, x4, x5, x6, x7, x8, x9, x10, xf, xl⟩ := (show HO w w2 ([] ++ boxO w.heap.size [_, _, _, _, _, _, _, _, _, _, _] :: []) from J.out).c11
                      go_wp2_with fail
                      refine (W1 _ J.out.below).out.mono ?_
                      rintro e w3 ⟨rfl, hb⟩
                      replace J := Lib.hid (J.out.step hb)
                      clear hb x0 x1 x2 x3 x4 x5 x6 x7 x8 x9 x10 xf xl
                      obtain ⟨x0, x1, x2, x3, x4, x5, x6, x7, x8, x9, x10, xf, xl⟩ := (show HO w w3 ([] ++ boxO w.heap.size [_, _, _, _, _, _, _, _, _, _, _] :: []) from J.out).c11
                      go_wp2_with fail
                      refine (W2 _ J.out.below).out.mono ?_
                      rintro e w4 ⟨rfl, hb⟩
                      replace J := Lib.hid (J.out.step hb)
                      clear hb x0 x1 x2 x3 x4 x5 x6 x7 x8 x9 x10 xf xl
                      obtain ⟨x0, x1, x2, x3, x4, x5, x6, x7, x8, x9, x10, xf, xl⟩ := (show HO w w4 ([] ++ boxO w.heap.size [_, _, _, _, _, _, _, _, _, _, _] :: []) from J.out).c11
                      go_wp2_with fail
                      refine (W3 _ J.out.below).out.mono ?_
                      rintro e w5 ⟨rfl, hb⟩
                      replace J := Lib.hid (J.out.step hb)
                      clear hb x0 x1 x2 x3 x4 x5 x6 x7 x8 x9 x10 xf xl
                      obtain ⟨x0, x1, x2, x3, x4, x5, x6, x7, x8, x9, x10, xf, xl⟩ := (show HO w w5 ([] ++ boxO w.heap.size [_, _, _, _, _, _, _, _, _, _, _] :: []) from J.out).c11
                      go_wp2_with fail
                      go_ret
                      exact ⟨rfl, J.out.below⟩
          | [(x, v)], HB, HPX, HEQ, hlen, a4, h1, J0 =>
            have a6 : bf = [x] := HEQ.out.symm
            have hpx := HPX.out (x, v) (by simp)
            obtain ⟨b0, off, rfl, hb0, hc0⟩ := bf_cells HB.out (by simp) (Below.refl _ _)
            obtain ⟨y0, y1, y2⟩ := hc0 0 (x, v) rfl
            simp only [Nat.zero_mul, Nat.add_zero] at y0 y1 y2
            simp only [List.length_cons, List.length_nil, Nat.zero_add] at J0 h1
            obtain ⟨xa, xb, xl'⟩ := x
            obtain ⟨Ap, cp, hvp, hq1, hq2⟩ := hpx.shape
            dsimp only at hvp hpx y0 y1 y2 hq1
            subst hvp
            have V := fun (W : World) (hb : Below w.heap.size w W) => Lib.hid (rvalid10_any xa xb (hpx.below hb))
            have J := Lib.hid (show HO w _ [boxO (w.heap.size + 1) [.int .i64 xa, .int .i64 xb, .slice Ap xl'.length cp], boxO w.heap.size _] from by
              have h := J0.out.alloc [.int .i64 xa, .int .i64 xb, .slice Ap xl'.length cp] 42
              rw [World.size_alloc] at h
              exact h)
            clear hc0 hpx HB HPX HEQ
            cases v1 : vBuf xa xb xl' with
            | false =>
              rw [v1] at V
              generalize xl'.length = np at *
              have ec : chkS ⟨set, bf, sc, tr, dm, op, is, ip, dx, dy, cb⟩ = 15 := by simp [chkS, argB, bufB, bfB, a1, a2, a3, a6, v1]
              rw [ec]
              clear ec
              go_enter Tryz.func13, Tryz.ntmps13
              go_wp2_with fail
              refine (T1 _).out.mono ?_
              rintro e w1 ⟨rfl, rfl⟩
              go_wp2_with fail
              refine (V _ J.out.below).out.mono ?_
              rintro e w2 ⟨rfl, hb⟩
              replace J := Lib.hid (J.out.step hb)
              clear hb
              obtain ⟨x0, x1, x2, x3, x4, x5, x6, x7, x8, x9, x10, xf, xl⟩ := (show HO w w2 ([_] ++ boxO w.heap.size [_, _, _, _, _, _, _, _, _, _, _] :: []) from J.out).c11
              obtain ⟨b0', b1', b2', bf, bl⟩ := (show HO w w2 ([] ++ boxO (w.heap.size + 1) [_, _, _] :: _) from J.out).c3
              go_wp2_with fail
              go_ret
              exact ⟨rfl, J.out.below⟩
            | true =>
              rw [v1] at V
              obtain ⟨hsa, hsb, -, -⟩ := vBuf_iff.1 v1
              have ra : IntKind.i64.wrap (xa.tmod sc) = xa % sc := by
                rw [Int.tmod_eq_emod_of_nonneg (by omega), IntKind.wrap_i64]
                have := Int.emod_nonneg xa (show sc ≠ 0 by omega)
                have := Int.emod_lt_of_pos xa (show 0 < sc by omega)
                omega
              have rb : IntKind.i64.wrap (xb.tmod sc) = xb % sc := by
                rw [Int.tmod_eq_emod_of_nonneg (by omega), IntKind.wrap_i64]
                have := Int.emod_nonneg xb (show sc ≠ 0 by omega)
                have := Int.emod_lt_of_pos xb (show 0 < sc by omega)
                omega
              have ra2 : xa.tmod sc = xa % sc := Int.tmod_eq_emod_of_nonneg (by omega)
              have rb2 : xb.tmod sc = xb % sc := Int.tmod_eq_emod_of_nonneg (by omega)
              have s0 : ¬ sc = 0 := by omega
              generalize xl'.length = np at *
              by_cases v2 : xa % sc = 0
              · by_cases v3 : xb % sc = 0
                · skip
                  cases e3 : sidB dx dy with
                  | false =>
                    rw [e3] at S
                    have ec : chkS ⟨set, bf, sc, tr, dm, op, is, ip, dx, dy, cb⟩ = 6 := by simp [chkS, argB, bufB, bfB, a1, a2, a3, a6, v1, v2, v3, e3]
                    rw [ec]
                    clear ec
                    go_enter Tryz.func13, Tryz.ntmps13
                    go_wp2_with fail
                    refine (T1 _).out.mono ?_
                    rintro e w1 ⟨rfl, rfl⟩
                    go_wp2_with fail
                    refine (V _ J.out.below).out.mono ?_
                    rintro e w2 ⟨rfl, hb⟩
                    replace J := Lib.hid (J.out.step hb)
                    clear hb
                    obtain ⟨x0, x1, x2, x3, x4, x5, x6, x7, x8, x9, x10, xf, xl⟩ := (show HO w w2 ([_] ++ boxO w.heap.size [_, _, _, _, _, _, _, _, _, _, _] :: []) from J.out).c11
                    obtain ⟨b0', b1', b2', bf, bl⟩ := (show HO w w2 ([] ++ boxO (w.heap.size + 1) [_, _, _] :: _) from J.out).c3
                    go_wp2_with fail
                    refine (S _ J.out.below).out.mono ?_
                    rintro e w3 ⟨rfl, hb⟩
                    replace J := Lib.hid (J.out.step hb)
                    clear hb x0 x1 x2 x3 x4 x5 x6 x7 x8 x9 x10 xf xl b0' b1' b2' bf bl
                    obtain ⟨x0, x1, x2, x3, x4, x5, x6, x7, x8, x9, x10, xf, xl⟩ := (show HO w w3 ([_] ++ boxO w.heap.size [_, _, _, _, _, _, _, _, _, _, _] :: []) from J.out).c11
                    obtain ⟨b0', b1', b2', bf, bl⟩ := (show HO w w3 ([] ++ boxO (w.heap.size + 1) [_, _, _] :: _) from J.out).c3
                    go_wp2_with fail
                    go_ret
                    exact ⟨rfl, J.out.below⟩
                  | true =>
                    rw [e3] at S
                    cases e4 : wideB dm with
                    | true =>
                      rw [e4] at W1
                      have ec : chkS ⟨set, bf, sc, tr, dm, op, is, ip, dx, dy, cb⟩ = 5 := by simp [chkS, argB, bufB, bfB, manyB, a1, a2, a3, a6, v1, v2, v3, e3, e4]
                      rw [ec]
                      clear ec
                      go_enter Tryz.func13, Tryz.ntmps13
                      go_wp2_with fail
                      refine (T1 _).out.mono ?_
                      rintro e w1 ⟨rfl, rfl⟩
                      go_wp2_with fail
                      refine (V _ J.out.below).out.mono ?_
                      rintro e w2 ⟨rfl, hb⟩
                      replace J := Lib.hid (J.out.step hb)
                      clear hb
                      obtain ⟨x0, x1, x2, x3, x4, x5, x6, x7, x8, x9, x10, xf, xl⟩ := (show HO w w2 ([_] ++ boxO w.heap.size [_, _, _, _, _, _, _, _, _, _, _] :: []) from J.out).c11
                      obtain ⟨b0', b1', b2', bf, bl⟩ := (show HO w w2 ([] ++ boxO (w.heap.size + 1) [_, _, _] :: _) from J.out).c3
                      go_wp2_with fail
                      refine (S _ J.out.below).out.mono ?_
                      rintro e w3 ⟨rfl, hb⟩
                      replace J := Lib.hid (J.out.step hb)
                      clear hb x0 x1 x2 x3 x4 x5 x6 x7 x8 x9 x10 xf xl b0' b1' b2' bf bl
                      obtain ⟨x0, x1, x2, x3, x4, x5, x6, x7, x8, x9, x10, xf, xl⟩ := (show HO w w3 ([_] ++ boxO w.heap.size [_, _, _, _, _, _, _, _, _, _, _] :: []) from J.out).c11
                      obtain ⟨b0', b1', b2', bf, bl⟩ := (show HO w w3 ([] ++ boxO (w.heap.size + 1) [_, _, _] :: _) from J.out).c3
                      go_wp2_with fail
                      refine (W1 _ J.out.below).out.mono ?_
                      rintro e w4 ⟨rfl, hb⟩
                      replace J := Lib.hid (J.out.step hb)
                      clear hb x0 x1 x2 x3 x4 x5 x6 x7 x8 x9 x10 xf xl b0' b1' b2' bf bl
                      obtain ⟨x0, x1, x2, x3, x4, x5, x6, x7, x8, x9, x10, xf, xl⟩ := (show HO w w4 ([_] ++ boxO w.heap.size [_, _, _, _, _, _, _, _, _, _, _] :: []) from J.out).c11
                      obtain ⟨b0', b1', b2', bf, bl⟩ := (show HO w w4 ([] ++ boxO (w.heap.size + 1) [_, _, _] :: _) from J.out).c3
                      go_wp2_with fail
                      go_ret
                      exact ⟨rfl, J.out.below⟩
                    | false =>
                      rw [e4] at W1
                      cases e5 : wideB op with
                      | true =>
                        rw [e5] at W2
                        have ec : chkS ⟨set, bf, sc, tr, dm, op, is, ip, dx, dy, cb⟩ = 5 := by simp [chkS, argB, bufB, bfB, manyB, a1, a2, a3, a6, v1, v2, v3, e3, e4, e5]
                        rw [ec]
                        clear ec
                        go_enter Tryz.func13, Tryz.ntmps13
                        go_wp2_with fail
                        refine (T1 _).out.mono ?_
                        rintro e w1 ⟨rfl, rfl⟩
                        go_wp2_with fail
                        refine (V _ J.out.below).out.mono ?_
                        rintro e w2 ⟨rfl, hb⟩
                        replace J := Lib.hid (J.out.step hb)
                        clear hb
                        obtain ⟨x0, x1, x2, x3, x4, x5, x6, x7, x8, x9, x10, xf, xl⟩ := (show HO w w2 ([_] ++ boxO w.heap.size [_, _, _, _, _, _, _, _, _, _, _] :: []) from J.out).c11
                        obtain ⟨b0', b1', b2', bf, bl⟩ := (show HO w w2 ([] ++ boxO (w.heap.size + 1) [_, _, _] :: _) from J.out).c3
                        go_wp2_with fail
                        refine (S _ J.out.below).out.mono ?_
                        rintro e w3 ⟨rfl, hb⟩
                        replace J := Lib.hid (J.out.step hb)
                        clear hb x0 x1 x2 x3 x4 x5 x6 x7 x8 x9 x10 xf xl b0' b1' b2' bf bl
                        obtain ⟨x0, x1, x2, x3, x4, x5, x6, x7, x8, x9, x10, xf, xl⟩ := (show HO w w3 ([_] ++ boxO w.heap.size [_, _, _, _, _, _, _, _, _, _, _] :: []) from J.out).c11
                        obtain ⟨b0', b1', b2', bf, bl⟩ := (show HO w w3 ([] ++ boxO (w.heap.size + 1) [_, _, _] :: _) from J.out).c3
                        go_wp2_with fail
                        refine (W1 _ J.out.below).out.mono ?_
                        rintro e w4 ⟨rfl, hb⟩
                        replace J := Lib.hid (J.out.step hb)
                        clear hb x0 x1 x2 x3 x4 x5 x6 x7 x8 x9 x10 xf xl b0' b1' b2' bf bl
                        obtain ⟨x0, x1, x2, x3, x4, x5, x6, x7, x8, x9, x10, xf, xl⟩ := (show HO w w4 ([_] ++ boxO w.heap.size [_, _, _, _, _, _, _, _, _, _, _] :: []) from J.out).c11
                        obtain ⟨b0', b1', b2', bf, bl⟩ := (show HO w w4 ([] ++ boxO (w.heap.size + 1) [_, _, _] :: _) from J.out).c3
                        go_wp2_with fail
                        refine (W2 _ J.out.below).out.mono ?_
                        rintro e w5 ⟨rfl, hb⟩
                        replace J := Lib.hid (J.out.step hb)
                        clear hb x0 x1 x2 x3 x4 x5 x6 x7 x8 x9 x10 xf xl b0' b1' b2' bf bl
                        obtain ⟨x0, x1, x2, x3, x4, x5, x6, x7, x8, x9, x10, xf, xl⟩ := (show HO w w5 ([_] ++ boxO w.heap.size [_, _, _, _, _, _, _, _, _, _, _] :: []) from J.out).c11
                        obtain ⟨b0', b1', b2', bf, bl⟩ := (show HO w w5 ([] ++ boxO (w.heap.size + 1) [_, _, _] :: _) from J.out).c3
                        go_wp2_with fail
                        go_ret
                        exact ⟨rfl, J.out.below⟩
                      | false =>
                        rw [e5] at W2
                        cases is with
                        | false =>
                          have ec : chkS ⟨set, bf, sc, tr, dm, op, false, ip, dx, dy, cb⟩ = 0 := by simp [chkS, argB, bufB, bfB, manyB, a1, a2, a3, a6, v1, v2, v3, e3, e4, e5]
                          rw [ec]
                          clear ec
                          go_enter Tryz.func13, Tryz.ntmps13
                          go_wp2_with fail
                          refine (T1 _).out.mono ?_
                          rintro e w1 ⟨rfl, rfl⟩
                          go_wp2_with fail
                          refine (V _ J.out.below).out.mono ?_
                          rintro e w2 ⟨rfl, hb⟩
                          replace J := Lib.hid (J.out.step hb)
                          clear hb
                          obtain ⟨x0, x1, x2, x3, x4, x5, x6, x7, x8, x9, x10, xf, xl⟩ := (show HO w w2 ([_] ++ boxO w.heap.size [_, _, _, _, _, _, _, _, _, _, _] :: []) from J.out).c11
                          obtain ⟨b0', b1', b2', bf, bl⟩ := (show HO w w2 ([] ++ boxO (w.heap.size + 1) [_, _, _] :: _) from J.out).c3
                          go_wp2_with fail
                          refine (S _ J.out.below).out.mono ?_
                          rintro e w3 ⟨rfl, hb⟩
                          replace J := Lib.hid (J.out.step hb)
                          clear hb x0 x1 x2 x3 x4 x5 x6 x7 x8 x9 x10 xf xl b0' b1' b2' bf bl
                          obtain ⟨x0, x1, x2, x3, x4, x5, x6, x7, x8, x9, x10, xf, xl⟩ := (show HO w w3 ([_] ++ boxO w.heap.size [_, _, _, _, _, _, _, _, _, _, _] :: []) from J.out).c11
                          obtain ⟨b0', b1', b2', bf, bl⟩ := (show HO w w3 ([] ++ boxO (w.heap.size + 1) [_, _, _] :: _) from J.out).c3
                          go_wp2_with fail
                          refine (W1 _ J.out.below).out.mono ?_
                          rintro e w4 ⟨rfl, hb⟩
                          replace J := Lib.hid (J.out.step hb)
                          clear hb x0 x1 x2 x3 x4 x5 x6 x7 x8 x9 x10 xf xl b0' b1' b2' bf bl
                          obtain ⟨x0, x1, x2, x3, x4, x5, x6, x7, x8, x9, x10, xf, xl⟩ := (show HO w w4 ([_] ++ boxO w.heap.size [_, _, _, _, _, _, _, _, _, _, _] :: []) from J.out).c11
                          obtain ⟨b0', b1', b2', bf, bl⟩ := (show HO w w4 ([] ++ boxO (w.heap.size + 1) [_, _, _] :: _) from J.out).c3
                          go_wp2_with fail
                          refine (W2 _ J.out.below).out.mono ?_
                          rintro e w5 ⟨rfl, hb⟩
                          replace J := Lib.hid (J.out.step hb)
                          clear hb x0 x1 x2 x3 x4 x5 x6 x7 x8 x9 x10 xf xl b0' b1' b2' bf bl
                          obtain ⟨x0, x1, x2, x3, x4, x5, x6, x7, x8, x9, x10, xf, xl⟩ := (show HO w w5 ([_] ++ boxO w.heap.size [_, _, _, _, _, _, _, _, _, _, _] :: []) from J.out).c11
                          obtain ⟨b0', b1', b2', bf, bl⟩ := (show HO w w5 ([] ++ boxO (w.heap.size + 1) [_, _, _] :: _) from J.out).c3
                          go_wp2_with fail
                          go_ret
                          exact ⟨rfl, J.out.below⟩
                        | true =>
                          cases e7 : wideB ip with
                          | true =>
                            rw [e7] at W3
                            have ec : chkS ⟨set, bf, sc, tr, dm, op, true, ip, dx, dy, cb⟩ = 5 := by simp [chkS, argB, bufB, bfB, manyB, a1, a2, a3, a6, v1, v2, v3, e3, e4, e5, e7]
                            rw [ec]
                            clear ec
                            go_enter Tryz.func13, Tryz.ntmps13
                            go_wp2_with fail
                            refine (T1 _).out.mono ?_
                            rintro e w1 ⟨rfl, rfl⟩
                            go_wp2_with fail
                            refine (V _ J.out.below).out.mono ?_
                            rintro e w2 ⟨rfl, hb⟩
                            replace J := Lib.hid (J.out.step hb)
                            clear hb
                            obtain ⟨x0, x1, x2, x3, x4, x5, x6, x7, x8, x9, x10, xf, xl⟩ := (show HO w w2 ([_] ++ boxO w.heap.size [_, _, _, _, _, _, _, _, _, _, _] :: []) from J.out).c11
                            obtain ⟨b0', b1', b2', bf, bl⟩ := (show HO w w2 ([] ++ boxO (w.heap.size + 1) [_, _, _] :: _) from J.out).c3
                            go_wp2_with fail
                            refine (S _ J.out.below).out.mono ?_
                            rintro e w3 ⟨rfl, hb⟩
                            replace J := Lib.hid (J.out.step hb)
                            clear hb x0 x1 x2 x3 x4 x5 x6 x7 x8 x9 x10 xf xl b0' b1' b2' bf bl
                            obtain ⟨x0, x1, x2, x3, x4, x5, x6, x7, x8, x9, x10, xf, xl⟩ := (show HO w w3 ([_] ++ boxO w.heap.size [_, _, _, _, _, _, _, _, _, _, _] :: []) from J.out).c11
                            obtain ⟨b0', b1', b2', bf, bl⟩ := (show HO w w3 ([] ++ boxO (w.heap.size + 1) [_, _, _] :: _) from J.out).c3
                            go_wp2_with fail
                            refine (W1 _ J.out.below).out.mono ?_
                            rintro e w4 ⟨rfl, hb⟩
                            replace J := Lib.hid (J.out.step hb)
                            clear hb x0 x1 x2 x3 x4 x5 x6 x7 x8 x9 x10 xf xl b0' b1' b2' bf bl
                            obtain ⟨x0, x1, x2, x3, x4, x5, x6, x7, x8, x9, x10, xf, xl⟩ := (show HO w w4 ([_] ++ boxO w.heap.size [_, _, _, _, _, _, _, _, _, _, _] :: []) from J.out).c11
                            obtain ⟨b0', b1', b2', bf, bl⟩ := (show HO w w4 ([] ++ boxO (w.heap.size + 1) [_, _, _] :: _) from J.out).c3
                            go_wp2_with fail
                            refine (W2 _ J.out.below).out.mono ?_
                            rintro e w5 ⟨rfl, hb⟩
                            replace J := Lib.hid (J.out.step hb)
                            clear hb x0 x1 x2 x3 x4 x5 x6 x7 x8 x9 x10 xf xl b0' b1' b2' bf bl
                            obtain ⟨x0, x1, x2, x3, x4, x5, x6, x7, x8, x9, x10, xf, xl⟩ := (show HO w w5 ([_] ++ boxO w.heap.size [_, _, _, _, _, _, _, _, _, _, _] :: []) from J.out).c11
                            obtain ⟨b0', b1', b2', bf, bl⟩ := (show HO w w5 ([] ++ boxO (w.heap.size + 1) [_, _, _] :: _) from J.out).c3
                            go_wp2_with fail
                            refine (W3 _ J.out.below).out.mono ?_
                            rintro e w6 ⟨rfl, hb⟩
                            replace J := Lib.hid (J.out.step hb)
                            clear hb x0 x1 x2 x3 x4 x5 x6 x7 x8 x9 x10 xf xl b0' b1' b2' bf bl
                            obtain ⟨x0, x1, x2, x3, x4, x5, x6, x7, x8, x9, x10, xf, xl⟩ := (show HO w w6 ([_] ++ boxO w.heap.size [_, _, _, _, _, _, _, _, _, _, _] :: []) from J.out).c11
                            obtain ⟨b0', b1', b2', bf, bl⟩ := (show HO w w6 ([] ++ boxO (w.heap.size + 1) [_, _, _] :: _) from J.out).c3
                            go_wp2_with fail
                            go_ret
                            exact ⟨rfl, J.out.below⟩
                          | false =>
                            rw [e7] at W3
                            have ec : chkS ⟨set, bf, sc, tr, dm, op, true, ip, dx, dy, cb⟩ = 0 := by simp [chkS, argB, bufB, bfB, manyB, a1, a2, a3, a6, v1, v2, v3, e3, e4, e5, e7]
                            rw [ec]
                            clear ec
                            go_enter Tryz.func13, Tryz.ntmps13
                            go_wp2_with fail
                            refine (T1 _).out.mono ?_
                            rintro e w1 ⟨rfl, rfl⟩
                            go_wp2_with fail
                            refine (V _ J.out.below).out.mono ?_
                            rintro e w2 ⟨rfl, hb⟩
                            replace J := Lib.hid (J.out.step hb)
                            clear hb
                            obtain ⟨x0, x1, x2, x3, x4, x5, x6, x7, x8, x9, x10, xf, xl⟩ := (show HO w w2 ([_] ++ boxO w.heap.size [_, _, _, _, _, _, _, _, _, _, _] :: []) from J.out).c11
                            obtain ⟨b0', b1', b2', bf, bl⟩ := (show HO w w2 ([] ++ boxO (w.heap.size + 1) [_, _, _] :: _) from J.out).c3
                            go_wp2_with fail
                            refine (S _ J.out.below).out.mono ?_
                            rintro e w3 ⟨rfl, hb⟩
                            replace J := Lib.hid (J.out.step hb)
                            clear hb x0 x1 x2 x3 x4 x5 x6 x7 x8 x9 x10 xf xl b0' b1' b2' bf bl
                            obtain ⟨x0, x1, x2, x3, x4, x5, x6, x7, x8, x9, x10, xf, xl⟩ := (show HO w w3 ([_] ++ boxO w.heap.size [_, _, _, _, _, _, _, _, _, _, _] :: []) from J.out).c11
                            obtain ⟨b0', b1', b2', bf, bl⟩ := (show HO w w3 ([] ++ boxO (w.heap.size + 1) [_, _, _] :: _) from J.out).c3
                            go_wp2_with fail
                            refine (W1 _ J.out.below).out.mono ?_
                            rintro e w4 ⟨rfl, hb⟩
                            replace J := Lib.hid (J.out.step hb)
                            clear hb x0 x1 x2 x3 x4 x5 x6 x7 x8 x9 x10 xf xl b0' b1' b2' bf bl
                            obtain ⟨x0, x1, x2, x3, x4, x5, x6, x7, x8, x9, x10, xf, xl⟩ := (show HO w w4 ([_] ++ boxO w.heap.size [_, _, _, _, _, _, _, _, _, _, _] :: []) from J.out).c11
                            obtain ⟨b0', b1', b2', bf, bl⟩ := (show HO w w4 ([] ++ boxO (w.heap.size + 1) [_, _, _] :: _) from J.out).c3
                            go_wp2_with fail
                            refine (W2 _ J.out.below).out.mono ?_
                            rintro e w5 ⟨rfl, hb⟩
                            replace J := Lib.hid (J.out.step hb)
                            clear hb x0 x1 x2 x3 x4 x5 x6 x7 x8 x9 x10 xf xl b0' b1' b2' bf bl
                            obtain ⟨x0, x1, x2, x3, x4, x5, x6, x7, x8, x9, x10, xf, xl⟩ := (show HO w w5 ([_] ++ boxO w.heap.size [_, _, _, _, _, _, _, _, _, _, _] :: []) from J.out).c11
                            obtain ⟨b0', b1', b2', bf, bl⟩ := (show HO w w5 ([] ++ boxO (w.heap.size + 1) [_, _, _] :: _) from J.out).c3
                            go_wp2_with fail
                            refine (W3 _ J.out.below).out.mono ?_
                            rintro e w6 ⟨rfl, hb⟩
                            replace J := Lib.hid (J.out.step hb)
                            clear hb x0 x1 x2 x3 x4 x5 x6 x7 x8 x9 x10 xf xl b0' b1' b2' bf bl
                            obtain ⟨x0, x1, x2, x3, x4, x5, x6, x7, x8, x9, x10, xf, xl⟩ := (show HO w w6 ([_] ++ boxO w.heap.size [_, _, _, _, _, _, _, _, _, _, _] :: []) from J.out).c11
                            obtain ⟨b0', b1', b2', bf, bl⟩ := (show HO w w6 ([] ++ boxO (w.heap.size + 1) [_, _, _] :: _) from J.out).c3
                            go_wp2_with fail
                            go_ret
                            exact ⟨rfl, J.out.below⟩
                · skip
                  have ec : chkS ⟨set, bf, sc, tr, dm, op, is, ip, dx, dy, cb⟩ = 15 := by simp [chkS, argB, bufB, bfB, a1, a2, a3, a6, v1, v2, v3]
                  rw [ec]
                  clear ec
                  go_enter Tryz.func13, Tryz.ntmps13
                  go_wp2_with fail
                  refine (T1 _).out.mono ?_
                  rintro e w1 ⟨rfl, rfl⟩
                  go_wp2_with fail
                  refine (V _ J.out.below).out.mono ?_
                  rintro e w2 ⟨rfl, hb⟩
                  replace J := Lib.hid (J.out.step hb)
                  clear hb
                  obtain ⟨x0, x1, x2, x3, x4, x5, x6, x7, x8, x9, x10, xf, xl⟩ := (show HO w w2 ([_] ++ boxO w.heap.size [_, _, _, _, _, _, _, _, _, _, _] :: []) from J.out).c11
                  obtain ⟨b0', b1', b2', bf, bl⟩ := (show HO w w2 ([] ++ boxO (w.heap.size + 1) [_, _, _] :: _) from J.out).c3
                  go_wp2_with fail
                  go_ret
                  exact ⟨rfl, J.out.below⟩
              · skip
                have ec : chkS ⟨set, bf, sc, tr, dm, op, is, ip, dx, dy, cb⟩ = 15 := by simp [chkS, argB, bufB, bfB, a1, a2, a3, a6, v1, v2]
                rw [ec]
                clear ec
                go_enter Tryz.func13, Tryz.ntmps13
                go_wp2_with fail
                refine (T1 _).out.mono ?_
                rintro e w1 ⟨rfl, rfl⟩
                go_wp2_with fail
                refine (V _ J.out.below).out.mono ?_
                rintro e w2 ⟨rfl, hb⟩
                replace J := Lib.hid (J.out.step hb)
                clear hb
                obtain ⟨x0, x1, x2, x3, x4, x5, x6, x7, x8, x9, x10, xf, xl⟩ := (show HO w w2 ([_] ++ boxO w.heap.size [_, _, _, _, _, _, _, _, _, _, _] :: []) from J.out).c11
                obtain ⟨b0', b1', b2', bf, bl⟩ := (show HO w w2 ([] ++ boxO (w.heap.size + 1) [_, _, _] :: _) from J.out).c3
                go_wp2_with fail
                go_ret
                exact ⟨rfl, J.out.below⟩
          | _ :: _ :: _, HB, HPX, HEQ, hlen, a4, h1, J0 => exact absurd a4 (by simp)
    · have J := J0
      have ec : chkS ⟨set, bf, sc, tr, dm, op, is, ip, dx, dy, cb⟩ = 2 := by simp [chkS, argB, a2]
      rw [ec]
      clear ec
      go_enter Tryz.func13, Tryz.ntmps13
      go_wp2_with fail
      go_ret
      exact ⟨rfl, J.out.below⟩
  · have J := J0
    have ec : chkS ⟨set, bf, sc, tr, dm, op, is, ip, dx, dy, cb⟩ = 2 := by simp [chkS, argB, a1]
    rw [ec]
    clear ec
    go_enter Tryz.func13, Tryz.ntmps13
    go_wp2_with fail
    go_ret
    exact ⟨rfl, J.out.below⟩

end Go.Proofs.YthedglfocjljjaaGreatDoor
