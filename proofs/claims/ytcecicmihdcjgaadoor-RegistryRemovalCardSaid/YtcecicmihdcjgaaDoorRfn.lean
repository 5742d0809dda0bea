/-
  What the laws of the registry compute on lists of a known form.
-/
import Derived.Test.YtcecicmihdcjgaaDoorRex
namespace Go.Proofs.YtcecicmihdcjgaaDoor
open Go.RowKit

/-- the first n + 1 globals, each removed at once -/
def remL : Nat → List Gl
  | 0 => [⟨1, s_display, 1⟩, ⟨1, s_display, 0⟩]
  | i + 1 => remL i ++ [⟨i + 2, s_display, 1⟩, ⟨i + 2, s_display, 0⟩]
/-- the first n globals announced -/
def addL : Nat → List Gl
  | 0 => []
  | i + 1 => addL i ++ [⟨i + 1, s_display, 1⟩]
theorem remL_len (i : Nat) : (remL i).length = i * 2 + 2 := by
  induction i with
  | zero => rfl
  | succ i ih => simp only [remL, List.length_append, ih, List.length_cons, List.length_nil]; omega
theorem addL_len (i : Nat) : (addL i).length = i := by
  induction i with
  | zero => rfl
  | succ i ih => simp only [addL, List.length_append, ih, List.length_cons, List.length_nil]
def remOk (i : Nat) : Bool :=
  decide (bindF (remL i) 1 s_display 1 = if i < 16 then 0 else 8) && decide (addF (remL i) s_display 1 = (remL i ++ [⟨i + 2, s_display, 1⟩], i + 2, 0)) && decide (bindF (remL i ++ [⟨i + 2, s_display, 1⟩]) (i + 2) s_display 1 = 0) && decide (remF (remL i ++ [⟨i + 2, s_display, 1⟩]) (i + 2) = (remL (i + 1), 0)) && decide (knownF (remL i) 1 = if i < 16 then (⟨1, s_display, 1⟩, true) else (zeroG, false))
theorem rem_all : ∀ i < 41, remOk i = true := by decide +kernel
def addOk (i : Nat) : Bool := decide (addF (addL i) s_display 1 = (addL (i + 1), i + 1, 0))
theorem add_all : ∀ i < 64, addOk i = true := by decide +kernel
def limL (x : Nat) : List Gl := addL 64 ++ [⟨x + 1, s_display, 0⟩]
def limOk (x : Nat) : Bool :=
  decide (remF (addL 64) (x + 1) = (limL x, 0)) && decide (remF (limL x) (x + 1) = (limL x, 8)) && decide (addF (limL x) s_display 1 = (limL x ++ [⟨65, s_display, 1⟩], 65, 0)) && decide ((listF (limL x ++ [⟨65, s_display, 1⟩])).length = 64)
theorem lim_all : ∀ x < 64, limOk x = true := by decide +kernel
theorem lim_full : addF (addL 64) s_display 1 = (addL 64, 0, 5) ∧ addF (addL 64) s_display 0 = (addL 64, 0, 11) := by decide +kernel

theorem verT_pos {s : ByteArray} (h : s ∈ namT) : 1 ≤ verT s := by
  revert s
  decide +kernel
theorem one_no {s : ByteArray} {v : Int} (h : s ∈ namT) (hv : v < 1 ∨ verT s < v) : addF [] s v = ([], 0, 11) := by
  have := verT_pos h
  unfold addF
  rw [if_neg (by omega), if_pos hv]
theorem one_yes {s : ByteArray} {v : Int} (h : s ∈ namT) (hv : ¬ (v < 1 ∨ verT s < v)) : addF [] s v = ([⟨1, s, v⟩], 1, 0) := by
  have := verT_pos h
  unfold addF
  rw [if_neg (by omega), if_neg hv]
  rfl
theorem none_bind (q : Nat) (s : ByteArray) (v : Int) : bindF [] q s v = 8 := rfl
theorem one_known {s : ByteArray} {v : Int} (hv : 0 < v) : knownF [⟨1, s, v⟩] 1 = (⟨1, s, v⟩, true) := by
  simp [knownF, annF, annS, hv]
theorem one_none {s : ByteArray} {v : Int} (hv : 0 < v) {q : Nat} (hq : q ≠ 1) : knownF [⟨1, s, v⟩] q = (zeroG, false) := by
  have hq' : ¬ 1 = q := fun h => hq h.symm
  simp [knownF, annF, annS, knB, hq', hv]
theorem one_bind {s : ByteArray} {v : Int} (hv : 0 < v) (x : Int) : bindF [⟨1, s, v⟩] 1 s x = if x < 1 ∨ v < x then 11 else 0 := by
  simp [bindF, one_known hv]
theorem one_other {s t : ByteArray} {v : Int} (hv : 0 < v) (x : Int) (ht : t ≠ s) : bindF [⟨1, s, v⟩] 1 t x = 9 := by
  have : ¬ s = t := fun h => ht h.symm
  simp [bindF, one_known hv, this]
theorem one_else {s t : ByteArray} {v : Int} (hv : 0 < v) (x : Int) {q : Nat} (hq : q ≠ 1) : bindF [⟨1, s, v⟩] q t x = 8 := by
  simp [bindF, one_none hv hq]

end Go.Proofs.YtcecicmihdcjgaaDoor
