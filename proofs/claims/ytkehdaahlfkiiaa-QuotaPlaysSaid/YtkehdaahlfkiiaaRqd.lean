/-
  The reference's bucket: NewBucket, advance.
-/
import Derived.Test.YtkehdaahlfkiiaaHob
import Derived.Test.YtkehdaahlfkiiaaQth
import Derived.Deep.CutRange
import Derived.Laws.Bits64
namespace Go.Proofs.Ytkehdaahlfkiiaa
open Go.RowKit

abbrev bC (b : Bk) : List Value := [.bool b.md, .bool b.st, .int .i64 b.rt, .int .i64 b.bu, .int .i64 b.fi, .int .i64 b.la]
abbrev bV (b : Bk) : Value := .agg #[.bool b.md, .bool b.st, .int .i64 b.rt, .int .i64 b.bu, .int .i64 b.fi, .int .i64 b.la]
abbrev bZ : List Value := [.bool false, .bool false, .int .i64 0, .int .i64 0, .int .i64 0, .int .i64 0]

set_option maxRecDepth 100000 in
set_option maxHeartbeats 2000000 in
theorem rnewb_any (r b : Int) (w : World) : Calls Try.prog 22 #[.int .i64 r, .int .i64 b] w fun e w' => e = .returned (bV (newB r b)) ∧ Below w.heap.size w w' := by
  have HB := fun (l : List Value) => (Below.refl w.heap.size w).alloc (Nat.le_refl _) (.cells l.toArray 45)
  unfold newB
  by_cases h1 : r < 0
  · rw [if_pos (.inl h1)]
    go_enter Try.func22, Try.ntmps22
    go_wp2_with fail
    exact bodyPost_ret (v := bV zeroB) (by simp [results, Try.results22, go_sem, zeroB]) rfl ⟨rfl, HB bZ⟩
  by_cases h2 : 1048576 < r
  · rw [if_pos (.inr (.inl h2))]
    go_enter Try.func22, Try.ntmps22
    go_wp2_with fail
    exact bodyPost_ret (v := bV zeroB) (by simp [results, Try.results22, go_sem, zeroB]) rfl ⟨rfl, HB bZ⟩
  by_cases h3 : b < 1
  · rw [if_pos (.inr (.inr (.inl h3)))]
    go_enter Try.func22, Try.ntmps22
    go_wp2_with fail
    exact bodyPost_ret (v := bV zeroB) (by simp [results, Try.results22, go_sem, zeroB]) rfl ⟨rfl, HB bZ⟩
  by_cases h4 : 1048576 < b
  · rw [if_pos (.inr (.inr (.inr h4)))]
    go_enter Try.func22, Try.ntmps22
    go_wp2_with fail
    exact bodyPost_ret (v := bV zeroB) (by simp [results, Try.results22, go_sem, zeroB]) rfl ⟨rfl, HB bZ⟩
  rw [if_neg (by omega)]
  go_enter Try.func22, Try.ntmps22
  go_wp2_with fail
  exact bodyPost_ret (v := bV ⟨true, false, r, b, b * 1000, 0⟩) (by simp [results, Try.results22, go_sem]) rfl ⟨rfl, HB (bC ⟨true, false, r, b, b * 1000, 0⟩)⟩

set_option maxRecDepth 100000 in
set_option maxHeartbeats 4000000 in
theorem radv_any {b : Bk} (hb : BOk b) {now : Int} (hn : I64 now) (w : World) : Calls Try.prog 33 #[bV b, .int .i64 now] w fun e w' => e = .returned (bV (advB b now)) ∧ Below w.heap.size w w' := by
  obtain ⟨md, st, rt, bu, fi, la⟩ := b
  obtain ⟨⟨r0, r1⟩, ⟨b0, b1⟩, ⟨f0, f1⟩, l0, l1⟩ := hb
  obtain ⟨n0, n1⟩ := hn
  dsimp only at r0 r1 b0 b1 f0 f1 l0 l1
  have HB := fun (l m : List Value) => ((Below.refl w.heap.size w).alloc (Nat.le_refl _) (.cells l.toArray 45)).alloc (by simp) (.cells m.toArray 45)
  unfold advB
  dsimp only
  cases st with
  | false =>
    rw [if_pos rfl]
    go_enter Try.func33, Try.ntmps33
    go_wp2_with fail
    exact bodyPost_ret (v := bV ⟨md, true, rt, bu, fi, now⟩) (by simp [results, Try.results33, go_sem]) rfl ⟨rfl, HB (bC ⟨md, true, rt, bu, fi, now⟩) (bC ⟨md, true, rt, bu, fi, now⟩)⟩
  | true =>
    rw [if_neg (by simp)]
    by_cases h1 : now ≤ la
    · rw [if_pos h1]
      go_enter Try.func33, Try.ntmps33
      go_wp2_with fail
      exact bodyPost_ret (v := bV ⟨md, true, rt, bu, fi, la⟩) (by simp [results, Try.results33, go_sem]) rfl ⟨rfl, HB (bC ⟨md, true, rt, bu, fi, la⟩) (bC ⟨md, true, rt, bu, fi, la⟩)⟩
    · rw [if_neg h1]
      unfold fillB
      dsimp only
      have hp : IntKind.u64.wrap (IntKind.u64.wrap now - IntKind.u64.wrap la) = now - la := by
        simp only [IntKind.wrap_u64]
        omega
      obtain ⟨d, hd⟩ : ∃ d, now - la = d := ⟨_, rfl⟩
      rw [hd] at hp ⊢
      have hd0 : 0 < d := by omega
      clear hd
      by_cases h2 : 0 < rt
      · rw [if_pos h2]
        by_cases h3 : bu * 1000 ≤ d
        · rw [if_pos h3]
          go_enter Try.func33, Try.ntmps33
          go_wp2_with fail
          exact bodyPost_ret (v := bV ⟨md, true, rt, bu, bu * 1000, now⟩) (by simp [results, Try.results33, go_sem]) rfl ⟨rfl, HB (bC ⟨md, true, rt, bu, bu * 1000, now⟩) (bC ⟨md, true, rt, bu, bu * 1000, now⟩)⟩
        · rw [if_neg h3]
          have hd1 : wrap64 d = d := by unfold wrap64; omega
          have hpr0 : 0 ≤ d * rt := Int.mul_nonneg (by omega) r0
          have hpr1 : d * rt ≤ 1048576000 * 1048576 := Int.le_trans (Int.mul_le_mul_of_nonneg_right (show d ≤ 1048576000 by omega) r0) (Int.mul_le_mul_of_nonneg_left r1 (by decide))
          obtain ⟨pr, hpr⟩ : ∃ pr, d * rt = pr := ⟨_, rfl⟩
          rw [hpr] at hpr0 hpr1 ⊢
          have h3b : decide (bu * 1000 ≤ d) = false := decide_eq_false h3
          go_enter Try.func33, Try.ntmps33
          go_wp2_with fail
          exact bodyPost_ret (v := bV ⟨md, true, rt, bu, min (bu * 1000) (fi + pr), now⟩) (by simp [results, Try.results33, go_sem]) rfl ⟨rfl, HB (bC ⟨md, true, rt, bu, min (bu * 1000) (fi + pr), now⟩) (bC ⟨md, true, rt, bu, min (bu * 1000) (fi + pr), now⟩)⟩
      · rw [if_neg h2]
        obtain rfl : rt = 0 := by omega
        go_enter Try.func33, Try.ntmps33
        go_wp2_with fail
        exact bodyPost_ret (v := bV ⟨md, true, 0, bu, fi, now⟩) (by simp [results, Try.results33, go_sem]) rfl ⟨rfl, HB (bC ⟨md, true, 0, bu, fi, now⟩) (bC ⟨md, true, 0, bu, fi, now⟩)⟩

end Go.Proofs.Ytkehdaahlfkiiaa
