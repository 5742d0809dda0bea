/-
  rects of the laws, where the lists are the same.
-/
import Derived.Test.YtahhcklkcibgoaaRls
import Derived.Test.YtahhcklkcibgoaaEq
namespace Go.Proofs.Ytahhcklkcibgoaa
open Go.RowKit

set_option maxHeartbeats 2000000 in
theorem neq_rect_self (r : R) (w : World) : (binOp .neq 44 (.agg #[.int .i64 r.x0, .int .i64 r.y0, .int .i64 r.x1, .int .i64 r.y1]) (.agg #[.int .i64 r.x0, .int .i64 r.y0, .int .i64 r.x1, .int .i64 r.y1])).run Try.prog w = .ok (.bool false) w := by
  have h : ∀ d : Nat, (Op.equalIn (d + 3) 44 (.agg #[.int .i64 r.x0, .int .i64 r.y0, .int .i64 r.x1, .int .i64 r.y1]) (.agg #[.int .i64 r.x0, .int .i64 r.y0, .int .i64 r.x1, .int .i64 r.y1])).run Try.prog w = .ok true w := fun d => by
    simp [Op.equalIn, run_underlying Try.underlying44, run_underlying Try.underlying3, go_sem]
  simp only [binOp]
  simp [Op.equal, Op.maxDepth, h 9997]

set_option maxRecDepth 100000 in
set_option maxHeartbeats 4000000 in
theorem rects_self {v u : Value} {l : List R} {w : World} (h1 : Rs w v l) (h2 : Rs w u l) : Calls Try.prog 36 #[v, u] w fun e w' => e = .returned (.bool true) ∧ Below w.heap.size w w' := by
  obtain ⟨A, c, rfl, hc, hm, hcell⟩ := h1
  obtain ⟨A', c', rfl, hc', hm', hcell'⟩ := h2
  simp only [maxLen] at hm hm'
  have HC := Lib.hid hcell
  have HC' := Lib.hid hcell'
  obtain ⟨len, hn⟩ : ∃ len, l.length = len := ⟨_, rfl⟩
  rw [hn] at hc hc' ⊢
  have HN := Lib.hid hn
  clear hcell hcell' hn
  go_enter Try.func36, Try.ntmps36
  go_wp2_with fail
  go_loopw [5] (fun k wr => ∃ (j : Nat), j ≤ len ∧ k = .int .i64 (j : Int) ∧ Hid (Below w.heap.size w wr)) (fun k _ => leftN len k)
  case atStart => exact ⟨0, by omega, rfl, Lib.hid (Below.refl _ _)⟩
  case round =>
    obtain ⟨j, hj, rfl, HB⟩ := hrel
    by_cases hlt : j < len
    · obtain ⟨x, hx⟩ : ∃ x, l[j]? = some x := ⟨_, List.getElem?_eq_getElem (by rw [HN.out]; exact hlt)⟩
      obtain ⟨b1, o1, rfl, hb1, hcs⟩ := HC.out (by rw [HN.out]; omega)
      obtain ⟨b2, o2, rfl, hb2, hcs'⟩ := HC'.out (by rw [HN.out]; omega)
      obtain ⟨t0, t1, t2, t3⟩ := hcs j x hx
      obtain ⟨s0, s1, s2, s3⟩ := hcs' j x hx
      rw [← HB.out.cell (p := ⟨b1, o1 + j * 4, none⟩) hb1] at t0
      rw [← HB.out.cell (p := ⟨b1, o1 + j * 4 + 1, none⟩) hb1] at t1
      rw [← HB.out.cell (p := ⟨b1, o1 + j * 4 + 2, none⟩) hb1] at t2
      rw [← HB.out.cell (p := ⟨b1, o1 + j * 4 + 3, none⟩) hb1] at t3
      rw [← HB.out.cell (p := ⟨b2, o2 + j * 4, none⟩) hb2] at s0
      rw [← HB.out.cell (p := ⟨b2, o2 + j * 4 + 1, none⟩) hb2] at s1
      rw [← HB.out.cell (p := ⟨b2, o2 + j * 4 + 2, none⟩) hb2] at s2
      rw [← HB.out.cell (p := ⟨b2, o2 + j * 4 + 3, none⟩) hb2] at s3
      have q0 : (j : Int) < len := by omega
      have q1 : (0 : Int) ≤ j := by omega
      have E1 := fun W => neq_rect_self x W
      clear hx hcs hcs' HC HC'
      go_wp2_with fail
      go_quiet (fail)
      go_wp2_with fail
      have Z := Lib.hid (below_draws HB.out nq)
      go_roundw
      case rel => exact ⟨j + 1, by omega, by go_num, Z⟩
      case measure =>
        unfold leftN
        simp [intOf]
        omega
    · have q0 : ¬ (j : Int) < len := by omega
      go_wp2_with fail
      go_ret
      exact ⟨rfl, HB.out⟩

end Go.Proofs.Ytahhcklkcibgoaa
