/-
  The reference's Same of two slices that hold the same rectangles.
-/
import Derived.Test.YtclnepijbnhdfaaRs
import Derived.Deep.QuietTactic
import Derived.BigQuiet
namespace Go.Proofs.Ytclnepijbnhdfaa
open Go.RowKit

theorem below_draws {B : Nat} {w w1 : World} (h : Below B w w1) : ∀ n, Below B w (w1.drewN n)
  | 0 => h
  | n + 1 => (below_draws h n).drew

set_option maxHeartbeats 2000000 in
theorem same_true {w : World} {v1 v2 : Value} {l : List R} (h1 : Rs w v1 l) (h2 : Rs w v2 l) : Calls Try.prog 13 #[v1, v2] w fun e w' => e = .returned (.bool true) ∧ Below w.heap.size w w' := by
  obtain ⟨A, c, rfl, hc1, hm1, hcell1⟩ := h1
  obtain ⟨A', c', rfl, hc2, hm2, hcell2⟩ := h2
  simp only [maxLen] at hm1 hm2
  have HC1 := Lib.hid hcell1
  have HC2 := Lib.hid hcell2
  obtain ⟨n, hn⟩ : ∃ n, l.length = n := ⟨_, rfl⟩
  have HN := Lib.hid hn
  rw [hn] at hc1 hc2 ⊢
  clear hcell1 hcell2 hn
  go_enter Try.func13, Try.ntmps13
  go_wp2_with fail
  go_loopw [5] (fun k wr => ∃ j : Nat, j ≤ n ∧ k = .int .i64 (j : Int) ∧ Hid (Below w.heap.size w wr)) (fun k _ => n - (intOf k).toNat)
  case atStart => exact ⟨0, by omega, rfl, Below.refl _ _⟩
  case round =>
    obtain ⟨j, hj, rfl, hrel⟩ := hrel
    by_cases hlt : j < n
    · obtain ⟨x, hx⟩ : ∃ x, l[j]? = some x := ⟨_, List.getElem?_eq_getElem (by rw [HN.out]; exact hlt)⟩
      obtain ⟨b, off, rfl, hb, hcs⟩ := HC1.out (by rw [HN.out]; omega)
      obtain ⟨b', off', rfl, hb', hcs'⟩ := HC2.out (by rw [HN.out]; omega)
      obtain ⟨t0, t1, t2, t3⟩ := hcs j x hx
      obtain ⟨s0, s1, s2, s3⟩ := hcs' j x hx
      rw [← hrel.out.cell (p := ⟨b, off + j * 4, none⟩) hb] at t0
      rw [← hrel.out.cell (p := ⟨b, off + j * 4 + 1, none⟩) hb] at t1
      rw [← hrel.out.cell (p := ⟨b, off + j * 4 + 2, none⟩) hb] at t2
      rw [← hrel.out.cell (p := ⟨b, off + j * 4 + 3, none⟩) hb] at t3
      rw [← hrel.out.cell (p := ⟨b', off' + j * 4, none⟩) hb'] at s0
      rw [← hrel.out.cell (p := ⟨b', off' + j * 4 + 1, none⟩) hb'] at s1
      rw [← hrel.out.cell (p := ⟨b', off' + j * 4 + 2, none⟩) hb'] at s2
      rw [← hrel.out.cell (p := ⟨b', off' + j * 4 + 3, none⟩) hb'] at s3
      clear hx hcs hcs' HC1 HC2
      have q0 : (j : Int) < n := by omega
      have q1 : (0 : Int) ≤ j := by omega
      go_wp2_with fail
      go_quiet (fail)
      go_wp2_with fail
      go_roundw
      case rel => exact ⟨j + 1, by omega, by go_num, below_draws hrel.out _⟩
      case measure => simp [intOf]; omega
    · have q0 : (n : Int) ≤ (j : Int) := by omega
      go_wp2_with fail
      go_ret
      exact ⟨rfl, hrel.out⟩

end Go.Proofs.Ytclnepijbnhdfaa
