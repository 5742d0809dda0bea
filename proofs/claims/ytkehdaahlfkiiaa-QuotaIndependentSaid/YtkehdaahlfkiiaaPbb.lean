/-
  Package quota: fill.
-/
import Derived.Test.YtkehdaahlfkiiaaPba
namespace Go.Proofs.Ytkehdaahlfkiiaa
open Go.RowKit

theorem u64_wrap (n : Int) : IntKind.u64.wrap n = n % 18446744073709551616 := by simp [IntKind.wrap, IntKind.bits, IntKind.signed]
theorem fillB_zero {b : Bk} (h : b.rt = 0) (d : Int) : fillB b d = b.fi := by
  unfold fillB
  rw [if_neg (by omega)]
theorem fillB_full {b : Bk} (hr : 0 < b.rt) {d : Int} (hd : (b.bu * 1000 - b.fi) / b.rt < d) : fillB b d = b.bu * 1000 := by
  unfold fillB
  rw [if_pos hr]
  have := (Int.ediv_lt_iff_lt_mul hr).1 hd
  split
  · rfl
  · omega
theorem fillB_part {b : Bk} (h : BOk b) (hr : 0 < b.rt) {d : Int} (h0 : 0 ≤ d) (hd : ¬ (b.bu * 1000 - b.fi) / b.rt < d) : fillB b d = b.fi + b.rt * d ∧ 0 ≤ b.rt * d ∧ b.rt * d ≤ b.bu * 1000 - b.fi := by
  have h1 := (Int.le_ediv_iff_mul_le hr).1 (Int.not_lt.1 hd)
  have h2 : d * b.rt = b.rt * d := Int.mul_comm _ _
  have h3 : 0 ≤ b.rt * d := Int.mul_nonneg (by omega) h0
  have h4 : d ≤ b.rt * d := by
    have := Int.mul_le_mul_of_nonneg_right (show (1 : Int) ≤ b.rt from hr) h0
    omega
  unfold fillB
  rw [if_pos hr]
  obtain ⟨_, _, ⟨f0, f1⟩, _⟩ := h
  refine ⟨?_, h3, by omega⟩
  split <;> omega

set_option maxRecDepth 100000 in
set_option maxHeartbeats 2000000 in
theorem p_fill_any {W : World} {p : Nat} {b : Bk} (h : (boxO p (bukC p b)).P W) (hb : BOk b) {d : Int} (h0 : 0 ≤ d) :
    Calls Try.prog 36 #[.pointer (some ⟨p, 0, none⟩), .int .u64 d] W fun e w' => e = .returned (.tuple #[]) ∧ BX W w' p (bukC p { b with fi := fillB b d }) := by
  have J := Lib.hid (BX.start h)
  have Z := @fillB_zero b
  have ZF := @fillB_full b
  have ZP := @fillB_part b hb
  obtain ⟨md, st, rt, bu, fi, la⟩ := b
  obtain ⟨⟨r0, r1⟩, ⟨b0, b1⟩, ⟨f0, f1⟩, l0, l1⟩ := hb
  unfold bukC at J ⊢
  dsimp only at J Z ZF ZP r0 r1 b0 b1 f0 f1 l0 l1 ⊢
  obtain ⟨x, hx⟩ : ∃ x, fillB ⟨md, st, rt, bu, fi, la⟩ d = x := ⟨_, rfl⟩
  have Z1 := Z (d := d)
  have ZF1 := fun a => ZF a (d := d)
  have ZP1 := fun a => ZP a (d := d) h0
  rw [hx] at Z1 ⊢
  simp only [hx] at ZF1 ZP1
  clear Z ZF ZP hx h
  have hF : bu * 1000 ≤ 1048576000 := by omega
  generalize bu * 1000 = F at *
  have w1 : IntKind.u64.wrap rt = rt := by rw [u64_wrap]; omega
  have w2 : IntKind.i64.wrap (F - fi) = F - fi := by rw [IntKind.wrap_i64]; omega
  have w3 : IntKind.u64.wrap (F - fi) = F - fi := by rw [u64_wrap]; omega
  replace J := Lib.hid (J.out.drew)
  obtain ⟨x0, x1, x2, x3, x4, x5, xf, xl⟩ := J.out.c6
  have sk := And.intro x0 (And.intro x1 x2)
  by_cases hr : rt = 0
  · have e := Z1 hr
    subst e hr
    clear ZF1 ZP1 Z1
    go_enter Try.func36, Try.ntmps36
    go_wp2_with fail
    go_region_held3 (fun W => W.cell? ⟨p, 0, none⟩ = some (.int .i64 0) ∧ W.cell? ⟨p, 1, none⟩ = some (.int .i64 F) ∧ W.cell? ⟨p, 2, none⟩ = some (.int .i64 x))
      (first
        | exact sk
        | go_keep)
      (fail)
    go_wp2_with fail
    exact bodyPost_ret (v := .tuple #[]) (by simp [results, Try.results36, go_sem]) rfl ⟨rfl, J.out⟩
  · have hr0 : 0 < rt := by omega
    have q1 : (F - fi).tdiv rt = (F - fi) / rt := Int.tdiv_eq_ediv_of_nonneg (by omega)
    have q2 : 0 ≤ (F - fi) / rt := Int.ediv_nonneg (by omega) (by omega)
    have q3 : (F - fi) / rt ≤ F - fi := Int.ediv_le_self _ (by omega)
    have w4 : IntKind.u64.wrap ((F - fi) / rt) = (F - fi) / rt := by rw [u64_wrap]; omega
    by_cases hd : (F - fi) / rt < d
    · have e := ZF1 hr0 hd
      subst e
      clear ZP1 Z1 ZF1
      have J2 := Lib.hid (J.out.cell (i := 2) (by simp) (.int .i64 x))
      go_enter Try.func36, Try.ntmps36
      go_wp2_with fail
      go_region_held3 (fun W => W.cell? ⟨p, 0, none⟩ = some (.int .i64 rt) ∧ W.cell? ⟨p, 1, none⟩ = some (.int .i64 x) ∧ W.cell? ⟨p, 2, none⟩ = some (.int .i64 fi))
        (first
          | exact sk
          | go_keep)
        (fail)
      go_wp2_with fail
      exact bodyPost_ret (v := .tuple #[]) (by simp [results, Try.results36, go_sem]) rfl ⟨rfl, J2.out⟩
    · obtain ⟨e, g1, g2⟩ := ZP1 hr0 hd
      subst e
      clear ZP1 Z1 ZF1
      have w5 : IntKind.u64.wrap (rt * d) = rt * d := by rw [u64_wrap]; omega
      have w6 : IntKind.i64.wrap (rt * d) = rt * d := by rw [IntKind.wrap_i64]; omega
      have w7 : IntKind.i64.wrap (fi + rt * d) = fi + rt * d := by rw [IntKind.wrap_i64]; omega
      have J2 := Lib.hid (J.out.cell (i := 2) (by simp) (.int .i64 (fi + rt * d)))
      go_enter Try.func36, Try.ntmps36
      go_wp2_with fail
      go_region_held3 (fun W => W.cell? ⟨p, 0, none⟩ = some (.int .i64 rt) ∧ W.cell? ⟨p, 1, none⟩ = some (.int .i64 F) ∧ W.cell? ⟨p, 2, none⟩ = some (.int .i64 fi))
        (first
          | exact sk
          | go_keep)
        (fail)
      go_wp2_with fail
      exact bodyPost_end (v := .tuple #[]) (by simp [results, Try.results36, go_sem]) rfl ⟨rfl, J2.out⟩

end Go.Proofs.Ytkehdaahlfkiiaa
