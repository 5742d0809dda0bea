/-
  Same of the reference: true of two buffers of the same size with the same pixels.
-/
import Derived.Test.YtphgjfkmnohjlaaDoorRvld
namespace Go.Proofs.YtphgjfkmnohjlaaDoor
open Go.RowKit

/-- the boxes of two buffers of one size -/
structure HeldS (w W : World) (a b : Int) (v u : Value) : Prop where
  c0 : W.cell? ⟨w.heap.size, 0, none⟩ = some (.int .i64 a)
  c1 : W.cell? ⟨w.heap.size, 1, none⟩ = some (.int .i64 b)
  c2 : W.cell? ⟨w.heap.size, 2, none⟩ = some v
  d0 : W.cell? ⟨w.heap.size + 1, 0, none⟩ = some (.int .i64 a)
  d1 : W.cell? ⟨w.heap.size + 1, 1, none⟩ = some (.int .i64 b)
  d2 : W.cell? ⟨w.heap.size + 1, 2, none⟩ = some u
  below : Below w.heap.size w W
  there : w.heap.size + 1 < W.heap.size

theorem HeldS.step {w W w' : World} {a b : Int} {v u : Value} (h : HeldS w W a b v u) (hb : Below W.heap.size W w') : HeldS w w' a b v u := by
  have h0 : w.heap.size < W.heap.size := by have := h.there; omega
  exact ⟨(hb.cell (p := ⟨w.heap.size, 0, none⟩) h0).trans h.c0, (hb.cell (p := ⟨w.heap.size, 1, none⟩) h0).trans h.c1, (hb.cell (p := ⟨w.heap.size, 2, none⟩) h0).trans h.c2,
    (hb.cell (p := ⟨w.heap.size + 1, 0, none⟩) h.there).trans h.d0, (hb.cell (p := ⟨w.heap.size + 1, 1, none⟩) h.there).trans h.d1, (hb.cell (p := ⟨w.heap.size + 1, 2, none⟩) h.there).trans h.d2,
    Below.next h.below hb, Nat.lt_of_lt_of_le h.there hb.size⟩
theorem HeldS.new (w : World) (a b : Int) (A A' : Option Addr) (n m c c' : Nat) : HeldS w ((w.alloc (.cells #[.int .i64 a, .int .i64 b, .slice A n c] 40)).alloc (.cells #[.int .i64 a, .int .i64 b, .slice A' m c'] 40)) a b (.slice A n c) (.slice A' m c') :=
  ⟨by simp [go_sem], by simp [go_sem], by simp [go_sem], by simp [go_sem], by simp [go_sem], by simp [go_sem],
    ((Below.refl _ _).alloc (Nat.le_refl _) _).alloc (Nat.le_of_lt (by rw [World.size_alloc]; exact Nat.lt_succ_self _)) _, by simp⟩

set_option maxRecDepth 100000 in
set_option maxHeartbeats 4000000 in
theorem rsame_true (a b : Int) {v u : Value} {l : List Px} {w : World} (h1 : Pxs w v l) (h2 : Pxs w u l) : Calls Tryd.prog 24 #[.agg #[.int .i64 a, .int .i64 b, v], .agg #[.int .i64 a, .int .i64 b, u]] w fun e w' => e = .returned (.bool true) ∧ Below w.heap.size w w' := by
  obtain ⟨A, c, rfl, hc1, hm1, hcell1⟩ := h1
  obtain ⟨A', c', rfl, hc2, hm2, hcell2⟩ := h2
  simp only [maxLen] at hm1 hm2
  have HC1 := Lib.hid hcell1
  have HC2 := Lib.hid hcell2
  obtain ⟨n, hn⟩ : ∃ n, l.length = n := ⟨_, rfl⟩
  have HN := Lib.hid hn
  rw [hn] at hc1 hc2 ⊢
  clear hcell1 hcell2 hn
  have J := Lib.hid (HeldS.new w a b A A' n n c c')
  go_enter Tryd.func24, Tryd.ntmps24
  go_wp2_with fail
  go_loopw [5] (fun k wr => ∃ j : Nat, j ≤ n ∧ k = .int .i64 (j : Int) ∧ Hid (HeldS w wr a b (.slice A n c) (.slice A' n c'))) (fun k _ => leftN n k)
  case atStart => exact ⟨0, by omega, rfl, J.out⟩
  case round =>
    obtain ⟨j, hj, rfl, K⟩ := hrel
    have o0 := K.out.c2
    have o1 := K.out.d2
    by_cases hlt : j < n
    · obtain ⟨p, hpx⟩ : ∃ p, l[j]? = some p := ⟨_, List.getElem?_eq_getElem (by rw [HN.out]; exact hlt)⟩
      obtain ⟨bb, off, rfl, hb, hcs⟩ := HC1.out (by rw [HN.out]; omega)
      obtain ⟨bb', off', rfl, hb', hcs'⟩ := HC2.out (by rw [HN.out]; omega)
      obtain ⟨t0, t1, t2, t3⟩ := (hcs j p hpx).keep K.out.below hb
      obtain ⟨s0, s1, s2, s3⟩ := (hcs' j p hpx).keep K.out.below hb'
      clear hpx hcs hcs' HC1 HC2
      have q0 : (j : Int) < n := by omega
      have q1 : (0 : Int) ≤ j := by omega
      go_wp2_with fail
      go_quiet (fail)
      go_wp2_with fail
      go_roundw
      case rel => exact ⟨j + 1, by omega, by go_num, K.out.step (below_drewN (Below.refl _ _) _)⟩
      case measure =>
        unfold leftN
        simp [intOf]
        omega
    · obtain rfl : j = n := by omega
      have q0 : ¬ (j : Int) < j := by omega
      go_wp2_with fail
      go_ret
      exact ⟨rfl, K.out.below⟩

end Go.Proofs.YtphgjfkmnohjlaaDoor
