/-
  What the registry computes, on lists of announcements and removals. No program is named here.
-/
import Derived.Test.YtcecicmihdcjgaaDoorGls
import Derived.Test.YtcecicmihdcjgaaDoorIfv
namespace Go.Proofs.YtcecicmihdcjgaaDoor
open Go.RowKit

def zeroG : Gl := ⟨0, ⟨#[]⟩, 0⟩
def annS (n : Nat) (a : Gl × Bool) (r : Gl) : Gl × Bool := if r.nm = n then (r, decide (0 < r.vr)) else a
/-- the last entry of a name, and whether it is an announcement -/
def annF (l : List Gl) (n : Nat) : Gl × Bool := l.foldl (annS n) (zeroG, false)
theorem annF_take {l : List Gl} {i : Nat} {r : Gl} (h : l[i]? = some r) (n : Nat) : annF (l.take (i + 1)) n = annS n (annF (l.take i) n) r := by
  unfold annF
  rw [List.take_add_one, h, List.foldl_append]
  rfl
def addedF (l : List Gl) : Nat := (l.filter fun r => decide (0 < r.vr)).length
theorem addedF_take {l : List Gl} {i : Nat} {r : Gl} (h : l[i]? = some r) : addedF (l.take (i + 1)) = addedF (l.take i) + if 0 < r.vr then 1 else 0 := by
  unfold addedF
  rw [List.take_add_one, h, List.filter_append, List.length_append]
  by_cases h0 : 0 < r.vr
  · simp [h0]
  · simp [h0]
theorem addedF_le (l : List Gl) : addedF l ≤ l.length := List.length_filter_le _ _
/-- what is announced -/
def listP (l : List Gl) (r : Gl) : Bool := !(decide (r.vr = 0)) && (annF l r.nm).2
def listF (l : List Gl) : List Gl := l.filter (listP l)
def eqG (a b : Gl) : Bool := decide (a.nm = b.nm) && (decide (a.it = b.it) && decide (a.vr = b.vr))
def sameF : List Gl → List Gl → Bool
  | [], [] => true
  | a :: l, b :: m => eqG a b && sameF l m
  | _, _ => false
theorem eqG_iff (a b : Gl) : eqG a b = true ↔ a = b := by
  obtain ⟨n, s, v⟩ := a
  obtain ⟨n2, s2, v2⟩ := b
  simp [eqG]
theorem sameF_iff : ∀ l m : List Gl, sameF l m = true ↔ l = m
  | [], [] => by simp [sameF]
  | [], b :: m => by simp [sameF]
  | a :: l, [] => by simp [sameF]
  | a :: l, b :: m => by simp [sameF, eqG_iff, sameF_iff l m]

/-- the first entry of a name -/
def fstF (n : Nat) : List Gl → Gl × Bool
  | [] => (zeroG, false)
  | r :: l => if r.nm = n then (r, true) else fstF n l
/-- the removals looked through from the end: the first i entries are left, and 'later' removals have been passed -/
def knB (l : List Gl) (n : Nat) : Nat → Nat → Gl × Bool
  | 0, _ => (zeroG, false)
  | i + 1, later =>
    if 0 < (l.getD i zeroG).vr then knB l n i later else
    if (l.getD i zeroG).nm ≠ n ∨ 16 < later + 1 then knB l n i (later + 1) else
    if (fstF n (l.take i)).2 = true then fstF n (l.take i) else knB l n i (later + 1)
def knownF (l : List Gl) (n : Nat) : Gl × Bool := if (annF l n).2 = true then annF l n else knB l n l.length 0
def addF (l : List Gl) (s : ByteArray) (v : Int) : List Gl × Nat × Int :=
  if verT s = 0 then (l, 0, 8) else if v < 1 ∨ verT s < v then (l, 0, 11) else if 64 ≤ (listF l).length then (l, 0, 5) else (l ++ [⟨addedF l + 1, s, v⟩], addedF l + 1, 0)
def remF (l : List Gl) (n : Nat) : List Gl × Int := if (annF l n).2 = true then (l ++ [⟨(annF l n).1.nm, (annF l n).1.it, 0⟩], 0) else (l, 8)
def bindF (l : List Gl) (n : Nat) (s : ByteArray) (v : Int) : Int :=
  if (knownF l n).2 = false then 8 else if (knownF l n).1.it ≠ s then 9 else if v < 1 ∨ (knownF l n).1.vr < v then 11 else 0

end Go.Proofs.YtcecicmihdcjgaaDoor
