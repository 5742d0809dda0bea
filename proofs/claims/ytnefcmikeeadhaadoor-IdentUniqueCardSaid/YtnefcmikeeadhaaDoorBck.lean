/-
  slices.Backward over the rows of the set.
-/
import Derived.Test.YtnefcmikeeadhaaDoorAdd
import Derived.RangeFuncNested
import Derived.RangeFuncBound
import Derived.RangeFuncCalls
import Derived.RangeFuncLeaves
import Derived.Shelf.Abstract
import Derived.Shelf.RegionOpen
import Derived.OwnWalkIn
import Derived.TacticsInMore
import Derived.LoopNIn
import Derived.LoopIn
namespace Go.Proofs.YtnefcmikeeadhaaDoor
open Go.RowKit Go.Shelf
attribute [local go_sem] Oper.semAt_some

set_option maxHeartbeats 1000000 in
theorem back_any (a : Option Addr) (len cap : Nat) (w : World) : Calls Tryd.prog 38 #[.slice a len cap] w fun e w' => e = .returned (.func (.func 40) #[] #[.pointer (some ⟨w.heap.size, 0, none⟩)]) ∧ w' = w.alloc (.cells #[.slice a len cap] 68) := by
  go_enter Tryd.func38, Tryd.ntmps38
  go_wp2_with fail
  go_ret
  exact ⟨rfl, rfl⟩

/-- what a round keeps: the box of the slice, and the table -/
def Keeps2 (I A : Nat) (W W' : World) : Prop := W'.heap[I]? = W.heap[I]? ∧ W'.heap[A]? = W.heap[A]?
theorem keeps2_t {I A : Nat} {U V W : World} (h : Keeps2 I A U V) (k : Keeps2 I A V W) : Keeps2 I A U W := ⟨k.1.trans h.1, k.2.trans h.2⟩
theorem keeps2_b {I A : Nat} {w : World} (hI : I < w.heap.size) (hA : A < w.heap.size) (W : World) (l : Nat) (o o' : Obj) (hl : w.heap.size ≤ l) (_ : W.heap[l]? = some o) (_ : o.isCells = false) (_ : o.isWalk = false) : Keeps2 I A W (W.putObj l o') :=
  ⟨World.putObj_heap_other (by omega), World.putObj_heap_other (by omega)⟩

set_option maxRecDepth 100000 in
set_option maxHeartbeats 2000000 in
theorem down_in (n : Nat) (hn : 2 ≤ n) (l I k : Nat) (V : Nat → Value) (J : Nat → World → Prop) (W : World)
    (hY : ∀ (r : Nat) (W1 : World), J r W1 → r < 6 → YieldAt Fence.wide (n - 1) Tryd.prog l #[.int .i64 ((5 - r : Nat) : Int), V (5 - r)] W1 fun e W' => e = .returned (.bool true) ∧ J (r + 1) W' ∧ Keeps2 I k W1 W')
    (hI : W.cell? ⟨I, 0, none⟩ = some (.slice (some ⟨k, 5, none⟩) 6 6)) (hV : ∀ i, i < 6 → W.cell? ⟨k, 5 + i, none⟩ = some (V i)) (hVs : ∀ i, i < 6 → ∃ A n c, V i = Value.slice A n c) (h0 : J 0 W) :
    CallsIn Fence.wide n Tryd.prog 40 #[.func (.yield l) #[] #[], .pointer (some ⟨I, 0, none⟩)] W fun e W' => (∃ v, e = .returned v) ∧ J 6 W' := by
  have hn1 : 1 ≤ n := by omega
  refine callsIn_of_wp Tryd.func40 rfl trivial ?_ rfl
  simp only [Tryd.ntmps40, List.size_toArray, List.length_cons, List.length_nil, Nat.reduceAdd, Nat.reduceSub, Array.replicate_succ, Array.replicate_zero, List.push_toArray, List.append_toArray, List.nil_append, List.cons_append]
  gi_wp2
  gi_loopw [3] (fun s3 wr => ∃ (j : Nat) (z : Int), j ≤ 6 ∧ s3 = .int .i64 z ∧ z = (j : Int) - 1 ∧ J (6 - j) wr ∧ Keeps2 I k W wr) (fun s3 _ => (intOf s3 + 1).toNat)
  case atStart => exact ⟨6, _, by omega, rfl, rfl, h0, rfl, rfl⟩
  case round =>
    obtain ⟨j, z, hj, rfl, hz, hJ, hK⟩ := hrel
    have i0 := (World.cell?_of_block (a := ⟨I, 0, none⟩) hK.1).trans hI
    cases j with
    | zero =>
      have q0 : ¬ 0 ≤ z := by omega
      clear hz
      gi_wp2
      go_end0
      exact ⟨⟨_, rfl⟩, hJ⟩
    | succ j =>
      obtain rfl : z = (j : Int) := by omega
      have v0 := (World.cell?_of_block (a := ⟨k, 5 + j, none⟩) hK.2).trans (hV j (by omega))
      obtain ⟨A, nn, cc, hv⟩ := hVs j (by omega)
      have q0 : (0 : Int) ≤ j := by omega
      have q1 : (j : Int) < 6 := by omega
      have hY1 := hY (6 - (j + 1)) wr hJ (by omega)
      have e1 : 5 - (6 - (j + 1)) = j := by omega
      have e2 : 6 - (j + 1) + 1 = 6 - j := by omega
      rw [e1, e2] at hY1
      obtain ⟨fn, tmps, assign, body, hy, hR⟩ := hY1
      rw [hv] at v0 hy
      clear hz hv e1 e2
      gi_wp2
      refine hR.mono ?_
      rintro e W3 ⟨rfl, hJ3, hk3⟩
      gi_wp2
      go_roundw
      case rel => exact ⟨j, _, by omega, rfl, by go_num, hJ3, keeps2_t hK hk3⟩
      case measure => simp [intOf]

end Go.Proofs.YtnefcmikeeadhaaDoor
