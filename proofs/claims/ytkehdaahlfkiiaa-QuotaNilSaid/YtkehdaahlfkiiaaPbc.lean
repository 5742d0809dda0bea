/-
  Package quota: advance, Take, Level.
-/
import Derived.Test.YtkehdaahlfkiiaaPbb
namespace Go.Proofs.Ytkehdaahlfkiiaa
open Go.RowKit

set_option maxRecDepth 100000 in
set_option maxHeartbeats 2000000 in
theorem p_adv_any {W : World} {p : Nat} {b : Bk} (h : (boxO p (bukC p b)).P W) (hb : BOk b) {now : Int} (hn : I64 now) :
    Calls Try.prog 35 #[.pointer (some ⟨p, 0, none⟩), .int .i64 now] W fun e w' => e = .returned (.tuple #[]) ∧ BX W w' p (bukC p (advB b now)) := by
  have J := Lib.hid (BX.start h)
  have F := fun (hlt : b.la < now) => Lib.hid (p_fill_any h hb (d := now - b.la) (by omega))
  unfold advB
  obtain ⟨md, st, rt, bu, fi, la⟩ := b
  obtain ⟨⟨r0, r1⟩, ⟨b0, b1⟩, ⟨f0, f1⟩, l0, l1⟩ := hb
  obtain ⟨n0, n1⟩ := hn
  dsimp only at J F r0 r1 b0 b1 f0 f1 l0 l1 ⊢
  obtain ⟨x0, x1, x2, x3, x4, x5, xf, xl⟩ := J.out.c6
  cases st with
  | false =>
    rw [if_pos rfl]
    have J2 := Lib.hid ((J.out.cell (i := 3) (by simp) (.bool true)).cell (i := 4) (by simp) (.int .i64 now))
    clear h F
    go_enter Try.func35, Try.ntmps35
    go_wp2_with fail
    exact bodyPost_ret (v := .tuple #[]) (by simp [results, Try.results35, go_sem]) rfl ⟨rfl, J2.out⟩
  | true =>
    rw [if_neg (by simp)]
    by_cases hle : now ≤ la
    · rw [if_pos hle]
      clear h F
      go_enter Try.func35, Try.ntmps35
      go_wp2_with fail
      exact bodyPost_ret (v := .tuple #[]) (by simp [results, Try.results35, go_sem]) rfl ⟨rfl, J.out⟩
    · rw [if_neg hle]
      replace F := F (by omega)
      have w1 : IntKind.u64.wrap (IntKind.u64.wrap now - IntKind.u64.wrap la) = now - la := by simp only [u64_wrap]; omega
      clear h
      go_enter Try.func35, Try.ntmps35
      go_wp2_with fail
      refine F.out.mono ?_
      rintro e w1 ⟨rfl, hx⟩
      have JX := Lib.hid hx
      clear F hx x0 x1 x2 x3 x4 x5 xf xl
      obtain ⟨x0, x1, x2, x3, x4, x5, xf, xl⟩ := JX.out.c6
      have J2 := Lib.hid (JX.out.cell (i := 4) (by simp) (.int .i64 now))
      go_wp2_with fail
      exact bodyPost_end (v := .tuple #[]) (by simp [results, Try.results35, go_sem]) rfl ⟨rfl, J2.out⟩

end Go.Proofs.Ytkehdaahlfkiiaa
