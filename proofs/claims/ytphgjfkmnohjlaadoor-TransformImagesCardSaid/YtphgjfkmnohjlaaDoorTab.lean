/-
  The table of products: what it holds; Compose and Invert of package transform.
-/
import Derived.Test.YtphgjfkmnohjlaaDoorPosn
import Derived.Lib.LaidTab
namespace Go.Proofs.YtphgjfkmnohjlaaDoor
open Go.RowKit

/-- the table of products lies as the text lays it -/
def Tab (W : World) : Prop := 0 < W.heap.size ∧ ∀ i j : Nat, i < 8 → j < 8 → W.cell? ⟨0, i * 8 + j, none⟩ = some (.int .i64 (comp8 i j))

theorem Tab.below {W w1 : World} (h : Tab W) (hb : Below W.heap.size W w1) : Tab w1 :=
  ⟨Nat.lt_of_lt_of_le h.1 hb.size, fun i j hi hj => (hb.cell (p := ⟨0, i * 8 + j, none⟩) h.1).trans (h.2 i j hi hj)⟩

theorem turn {f : FuncId} {args : Array Value} {w : World} {x : Ending} (h : Calls Tryd.prog f args w fun e w' => e = x ∧ w = w') : Calls Tryd.prog f args w fun e w' => e = x ∧ w' = w := h.mono fun _ _ ⟨a, b⟩ => ⟨a, b.symm⟩

set_option maxHeartbeats 2000000 in
theorem compose_any (a b : Int) (w : World) (h : Tab w) : Calls Tryd.prog 14 #[.int .i64 a, .int .i64 b] w fun e w' => e = .returned (.int .i64 (comp a b)) ∧ Below w.heap.size w w' := by
  have C1 := fun W => Lib.hid (known_any a W)
  have C2 := fun W => Lib.hid (known_any b W)
  obtain ⟨i, hi⟩ : ∃ i : Nat, cl a = (i : Int) := ⟨(cl a).toNat, by have := cl_in a; omega⟩
  obtain ⟨j, hj⟩ : ∃ j : Nat, cl b = (j : Int) := ⟨(cl b).toNat, by have := cl_in b; omega⟩
  have hi8 : i < 8 := by have := cl_in a; omega
  have hj8 : j < 8 := by have := cl_in b; omega
  have hcell := h.2 i j hi8 hj8
  have hv : comp a b = comp8 i j := by unfold comp; rw [hi, hj]
  rw [hi] at C1
  rw [hj] at C2
  rw [hv]
  clear h hv hi hj
  have q0 : (0 : Int) ≤ i := by omega
  have q1 : (i : Int) < 8 := by omega
  have q2 : (0 : Int) ≤ j := by omega
  have q3 : (j : Int) < 8 := by omega
  go_enter Tryd.func14, Tryd.ntmps14
  go_wp2_with fail
  go_quiet (first
    | (go_at_call 33; exact Calls.quiet_of_same (turn (C1 _).out))
    | (go_at_call 33; exact Calls.quiet_of_same (turn (C2 _).out)))
  go_wp2_with fail
  go_ret
  exact ⟨rfl, below_drewN (Below.refl _ _) _⟩

theorem inv_hit {a : Int} {k : Nat} (h : comp a k = 0) (hk : (k : Int) ≤ inv a) : (k : Int) = inv a := by
  have h1 := inv_in a
  rw [← inv_only h, cl_eq (by omega) (by omega)]
theorem inv_miss {a : Int} {k : Nat} (h : comp a k ≠ 0) (hk : (k : Int) ≤ inv a) : (k : Int) < inv a := by
  have h1 : (k : Int) ≠ inv a := fun e => h (by rw [e, comp_inv])
  omega

def left7 (n : Nat) (v : Value) : Nat := n - (intOf v).toNat

set_option maxHeartbeats 2000000 in
theorem invert_any (a : Int) (w : World) (h : Tab w) : Calls Tryd.prog 16 #[.int .i64 a] w fun e w' => e = .returned (.int .i64 (inv a)) ∧ Below w.heap.size w w' := by
  have HT := Lib.hid h
  clear h
  obtain ⟨n, hn⟩ : ∃ n : Nat, inv a = (n : Int) := ⟨(inv a).toNat, by have := inv_in a; omega⟩
  have HN := Lib.hid hn
  have hn7 : n ≤ 7 := by have := inv_in a; omega
  rw [hn]
  clear hn
  go_enter Tryd.func16, Tryd.ntmps16
  go_wp2_with fail
  go_loopw [3] (fun s3 wr => ∃ k : Nat, k ≤ n ∧ s3 = .int .i64 (k : Int) ∧ Hid (Below w.heap.size w wr)) (fun s3 _ => left7 n s3)
  case atStart => exact ⟨0, by omega, rfl, Below.refl _ _⟩
  case round =>
    obtain ⟨k, hk, rfl, K⟩ := hrel
    have C := Lib.hid (compose_any a k wr (HT.out.below K.out))
    by_cases h0 : comp a k = 0
    · have e := inv_hit h0 (by rw [HN.out]; omega)
      rw [HN.out] at e
      obtain rfl : k = n := by omega
      rw [h0] at C
      clear h0 e
      go_wp2_with fail
      refine C.out.mono ?_
      rintro e w1 ⟨rfl, hb⟩
      have K1 := Lib.hid (Below.next K.out hb)
      clear hb
      go_wp2_with fail
      go_ret
      exact ⟨rfl, K1.out⟩
    · have e := inv_miss h0 (by rw [HN.out]; omega)
      rw [HN.out] at e
      have q0 : k < n := by omega
      generalize comp a k = c at *
      clear e
      go_wp2_with fail
      refine C.out.mono ?_
      rintro e w1 ⟨rfl, hb⟩
      have K1 := Lib.hid (Below.next K.out hb)
      clear hb
      go_wp2_with fail
      go_roundw
      case rel => exact ⟨k + 1, by omega, by go_num, K1.out⟩
      case measure =>
        unfold left7
        simp [intOf]
        omega

end Go.Proofs.YtphgjfkmnohjlaaDoor
