/-
  Package quota: pairs of counts and limits in memory; the predicates and errors of quotas; Used.
-/
import Derived.Test.YtkehdaahlfkiiaaPqk
import Derived.LaidEqlPtr
import Derived.Lib.SliceRun
namespace Go.Proofs.Ytkehdaahlfkiiaa
open Go.RowKit

/-- the block b holds pairs of counts and limits -/
structure PairsAt (W : World) (b : Nat) (ls cs : List Int) : Prop where
  lim : ∀ (i : Nat) (x : Int), ls[i]? = some x → W.cell? ⟨b, i * 2 + 1, none⟩ = some (.int .i64 x)
  cnt : ∀ (i : Nat) (x : Int), cs[i]? = some x → W.cell? ⟨b, i * 2, none⟩ = some (.int .i64 x)
  free : ∀ i, W.frozen? ⟨b, i, none⟩ = false
  there : b < W.heap.size
theorem PairsAt.keep {W W' : World} {b : Nat} {ls cs : List Int} (h : PairsAt W b ls cs) (hz : W.heap.size ≤ W'.heap.size) (hb : W'.heap[b]? = W.heap[b]?) : PairsAt W' b ls cs :=
  ⟨fun i x hx => (cell_of_block hb _).trans (h.lim i x hx), fun i x hx => (cell_of_block hb _).trans (h.cnt i x hx), fun i => (frozen_of_block hb i).trans (h.free i), Nat.lt_of_lt_of_le h.there hz⟩
theorem PairsAt.put {W : World} {b : Nat} {ls cs : List Int} (h : PairsAt W b ls cs) {i : Nat} (hi : i < cs.length) (x : Int) : PairsAt (W.setCell ⟨b, i * 2, none⟩ (.int .i64 x)) b ls (cs.set i x) := by
  refine ⟨fun j y hy => ?_, fun j y hy => ?_, fun j => ?_, by simpa using h.there⟩
  · rw [World.cell?_setCell_other _ _ _ _ (fun q => by have := congrArg Addr.off q; simp only at this; omega)]
    exact h.lim j y hy
  · by_cases e : i = j
    · subst e
      rw [List.getElem?_set_self hi] at hy
      injection hy with hy
      subst hy
      exact World.cell?_setCell_same _ _ _ (h.cnt i _ (List.getElem?_eq_getElem hi))
    · rw [List.getElem?_set_ne e] at hy
      rw [World.cell?_setCell_other _ _ _ _ (fun q => by have := congrArg Addr.off q; simp only at this; omega)]
      exact h.cnt j y hy
  · rw [World.frozen?_setCell]
    exact h.free j

/-- the cells of a quota's struct -/
abbrev quoC (p b n : Nat) : List Value := [.slice (some ⟨b, 0, none⟩) n n, .pointer (some ⟨p, 0, none⟩)]
/-- the value rv is a quota with the counts q in the blocks S -/
def Q0 (w0 W : World) (rv : Value) (q : Qs) (S : Nat → Prop) : Prop :=
  ∃ (p b : Nat), rv = .pointer (some ⟨p, 0, none⟩) ∧ w0.heap.size ≤ p ∧ w0.heap.size ≤ b ∧ p ≠ b ∧ q.ls.length ≤ 100 ∧ (∀ k, S k ↔ (k = p ∨ k = b)) ∧ (boxO p (quoC p b q.ls.length)).P W ∧ PairsAt W b q.ls q.cs
theorem Q0.keep {w0 W W' : World} {rv : Value} {q : Qs} {S : Nat → Prop} (h : Q0 w0 W rv q S) (hz : W.heap.size ≤ W'.heap.size) (hk : ∀ k, S k → W'.heap[k]? = W.heap[k]?) : Q0 w0 W' rv q S := by
  obtain ⟨p, b, hv, h1, h2, h3, h4, hS, hb, hp⟩ := h
  exact ⟨p, b, hv, h1, h2, h3, h4, hS, boxO_keeps _ _ W W' hz (fun k e => hk k ((hS k).2 (.inl e))) hb, hp.keep hz (hk b ((hS b).2 (.inr rfl)))⟩
theorem Q0.lt {w0 W : World} {rv : Value} {q : Qs} {S : Nat → Prop} (h : Q0 w0 W rv q S) : ∀ k, S k → w0.heap.size ≤ k ∧ k < W.heap.size := by
  obtain ⟨p, b, hv, h1, h2, h3, h4, hS, hb, hp⟩ := h
  intro k hk
  rcases (hS k).1 hk with rfl | rfl
  · exact ⟨h1, hb.2.2⟩
  · exact ⟨h2, hp.there⟩

set_option maxRecDepth 100000 in
theorem quo_info : (Try.prog.info? 63).isSome = true := by kernel_rfl
theorem eql_ptrQ (a : Addr) (w : World) : (binOp .eql 25 (.pointer (some a)) (.pointer (some a))).run Try.prog w = .ok (.bool true) w := by
  obtain ⟨i, hi⟩ := Option.isSome_iff_exists.1 quo_info
  exact run_eql_ptr_same w a Try.underlying25 hi
set_option maxRecDepth 100000 in
theorem p_created_own {w : World} {p : Nat} (h : w.cell? ⟨p, 1, none⟩ = some (.pointer (some ⟨p, 0, none⟩))) : Calls Try.prog 30 #[.pointer (some ⟨p, 0, none⟩)] w fun e w' => e = .returned (.bool true) ∧ w = w' := by
  have E := fun W => eql_ptrQ ⟨p, 0, none⟩ W
  go_enter Try.func30, Try.ntmps30
  go_wp2_with fail
  go_ret
  exact ⟨rfl, rfl⟩
set_option maxRecDepth 100000 in
theorem p_created_nil (w : World) : Calls Try.prog 30 #[.pointer none] w fun e w' => e = .returned (.bool false) ∧ w = w' := by
  go_enter Try.func30, Try.ntmps30
  go_wp2_with fail
  go_ret
  exact ⟨rfl, rfl⟩
set_option maxRecDepth 100000 in
theorem p_has_any {w : World} {p b n : Nat} (h : w.cell? ⟨p, 0, none⟩ = some (.slice (some ⟨b, 0, none⟩) n n)) (k : Int) : Calls Try.prog 31 #[.pointer (some ⟨p, 0, none⟩), .int .i64 k] w fun e w' => e = .returned (.bool (decide (0 ≤ k ∧ k < n))) ∧ w = w' := by
  by_cases h1 : 0 ≤ k
  · by_cases h2 : k < n
    · rw [decide_eq_true ⟨h1, h2⟩]
      go_enter Try.func31, Try.ntmps31
      go_wp2_with fail
      go_ret
      exact ⟨rfl, rfl⟩
    · rw [decide_eq_false (fun e => h2 e.2)]
      go_enter Try.func31, Try.ntmps31
      go_wp2_with fail
      go_ret
      exact ⟨rfl, rfl⟩
  · rw [decide_eq_false (fun e => h1 e.1)]
    go_enter Try.func31, Try.ntmps31
    go_wp2_with fail
    go_ret
    exact ⟨rfl, rfl⟩
/-- the errors that Use and Release have in common -/
def chkN (m : Nat) (k n : Int) : Int := if ¬ (0 ≤ k ∧ k < m) then 8 else if n < 0 then 6 else 0
set_option maxRecDepth 100000 in
theorem p_check_any {w : World} {p b m : Nat} (h : w.cell? ⟨p, 0, none⟩ = some (.slice (some ⟨b, 0, none⟩) m m)) (h1 : w.cell? ⟨p, 1, none⟩ = some (.pointer (some ⟨p, 0, none⟩))) (k n : Int) :
    Calls Try.prog 32 #[.pointer (some ⟨p, 0, none⟩), .int .i64 k, .int .i64 n] w fun e w' => e = .returned (.int .i64 (chkN m k n)) ∧ w = w' := by
  have C := Lib.hid (p_created_own h1)
  have D := Lib.hid (p_has_any h k)
  unfold chkN
  clear h h1
  by_cases hk : 0 ≤ k ∧ k < m
  · rw [decide_eq_true hk] at D
    rw [if_neg (not_not_intro hk)]
    clear hk
    by_cases hn : n < 0
    · rw [if_pos hn]
      go_enter Try.func32, Try.ntmps32
      go_wp2_with fail
      refine C.out.mono ?_
      rintro e w1 ⟨rfl, rfl⟩
      go_wp2_with fail
      refine D.out.mono ?_
      rintro e w1 ⟨rfl, rfl⟩
      go_wp2_with fail
      go_ret
      exact ⟨rfl, rfl⟩
    · rw [if_neg hn]
      go_enter Try.func32, Try.ntmps32
      go_wp2_with fail
      refine C.out.mono ?_
      rintro e w1 ⟨rfl, rfl⟩
      go_wp2_with fail
      refine D.out.mono ?_
      rintro e w1 ⟨rfl, rfl⟩
      go_wp2_with fail
      go_ret
      exact ⟨rfl, rfl⟩
  · rw [decide_eq_false hk] at D
    rw [if_pos hk]
    clear hk
    go_enter Try.func32, Try.ntmps32
    go_wp2_with fail
    refine C.out.mono ?_
    rintro e w1 ⟨rfl, rfl⟩
    go_wp2_with fail
    refine D.out.mono ?_
    rintro e w1 ⟨rfl, rfl⟩
    go_wp2_with fail
    go_ret
    exact ⟨rfl, rfl⟩
set_option maxRecDepth 100000 in
theorem p_check_nil (w : World) (k n : Int) : Calls Try.prog 32 #[.pointer none, .int .i64 k, .int .i64 n] w fun e w' => e = .returned (.int .i64 1) ∧ w = w' := by
  have C := Lib.hid (p_created_nil w)
  go_enter Try.func32, Try.ntmps32
  go_wp2_with fail
  refine C.out.mono ?_
  rintro e w1 ⟨rfl, rfl⟩
  go_wp2_with fail
  go_ret
  exact ⟨rfl, rfl⟩

end Go.Proofs.Ytkehdaahlfkiiaa
