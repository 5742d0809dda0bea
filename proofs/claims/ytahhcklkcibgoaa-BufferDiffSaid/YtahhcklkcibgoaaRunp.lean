/-
  The runs of the marked positions, from position to position (no memory).
-/
import Derived.Test.YtahhcklkcibgoaaRls
import Derived.Test.YtahhcklkcibgoaaBuf
namespace Go.Proofs.Ytahhcklkcibgoaa
open Go.RowKit


/-- what position i makes of the runs before it -/
def runS (w i : Nat) (h h' : Bool) (l : List R) : List R :=
  if h = true then
    (if 0 < i % w ∧ h' = true then l.set (l.length - 1) ⟨(l.getD (l.length - 1) zeroR).x0, (l.getD (l.length - 1) zeroR).y0, ((i % w : Nat) : Int) + 1, (l.getD (l.length - 1) zeroR).y1⟩
     else l ++ [⟨((i % w : Nat) : Int), ((i / w : Nat) : Int), ((i % w : Nat) : Int) + 1, ((i / w : Nat) : Int) + 1⟩])
  else l

def runsP (w : Nat) (has : Nat → Bool) : Nat → List R
  | 0 => []
  | i + 1 => runS w i (has i) (has (i - 1)) (runsP w has i)

theorem runs_zero (w : Nat) (has : Nat → Bool) : runsP w has 0 = [] := rfl
theorem runs_succ (w : Nat) (has : Nat → Bool) (i : Nat) : runsP w has (i + 1) = runS w i (has i) (has (i - 1)) (runsP w has i) := rfl

theorem runS_no (w i : Nat) (h' : Bool) (l : List R) : runS w i false h' l = l := rfl

theorem runS_new {w i : Nat} {h' : Bool} {l : List R} (h : ¬ (0 < i % w ∧ h' = true)) : runS w i true h' l = l ++ [⟨((i % w : Nat) : Int), ((i / w : Nat) : Int), ((i % w : Nat) : Int) + 1, ((i / w : Nat) : Int) + 1⟩] := by
  unfold runS
  rw [if_pos rfl, if_neg h]

theorem runS_more {w i : Nat} {m : List R} {p : R} (h : 0 < i % w) : runS w i true true (m ++ [p]) = m ++ [⟨p.x0, p.y0, ((i % w : Nat) : Int) + 1, p.y1⟩] := by
  unfold runS
  rw [if_pos rfl, if_pos ⟨h, rfl⟩]
  have e : (m ++ [p]).length - 1 = m.length := by simp
  rw [e, set_last]
  simp [List.getD_eq_getElem?_getD]

theorem mod_step {w j : Nat} (hw : 0 < w) (h : 0 < (j + 1) % w) : (j + 1) % w = j % w + 1 ∧ (j + 1) / w = j / w := by
  have h1 := Nat.div_add_mod j w
  have h2 := Nat.mod_lt j hw
  rcases Nat.lt_or_ge (j % w + 1) w with h3 | h3
  · have e : j + 1 = j / w * w + (j % w + 1) := by rw [Nat.mul_comm]; omega
    constructor
    · conv => lhs; rw [e]
      exact idx_mod h3
    · conv => lhs; rw [e]
      exact idx_div h3
  · have e : j + 1 = (j / w + 1) * w := by rw [Nat.add_mul, Nat.mul_comm]; omega
    rw [e, Nat.mul_mod_left] at h
    omega

/-- where the position before is marked too, the last run ends there -/
theorem runs_last {w : Nat} (hw : 0 < w) (has : Nat → Bool) : ∀ i, 0 < i % w → has (i - 1) = true →
    ∃ m p, runsP w has i = m ++ [p] ∧ p.x1 = ((i % w : Nat) : Int) ∧ p.y0 = ((i / w : Nat) : Int) ∧ p.y1 = ((i / w : Nat) : Int) + 1 ∧ 0 ≤ p.x0 ∧ p.x0 < p.x1
  | 0, h, _ => by rw [Nat.zero_mod] at h; omega
  | j + 1, h, h' => by
    rw [Nat.add_sub_cancel] at h'
    obtain ⟨e1, e2⟩ := mod_step hw h
    rw [runs_succ, h', e1, e2]
    by_cases hc : 0 < j % w ∧ has (j - 1) = true
    · obtain ⟨m, p, hm, h1, h2, h3, h4, h5⟩ := runs_last hw has j hc.1 hc.2
      rw [hm, hc.2, runS_more hc.1]
      exact ⟨m, _, rfl, by simp, h2, h3, h4, by simp only; omega⟩
    · rw [runS_new hc]
      exact ⟨_, _, rfl, by simp, rfl, rfl, by simp only; omega, by simp only; omega⟩

theorem runS_len (w i : Nat) (h h' : Bool) (l : List R) : l.length ≤ (runS w i h h' l).length ∧ (runS w i h h' l).length ≤ l.length + 1 := by
  unfold runS
  split
  · split
    · rw [List.length_set]; omega
    · simp
  · omega

theorem runs_mono (w : Nat) (has : Nat → Bool) {i : Nat} : ∀ {j : Nat}, i ≤ j → (runsP w has i).length ≤ (runsP w has j).length
  | 0, h => by rw [Nat.le_zero.1 h]; exact Nat.le_refl _
  | j + 1, h => by
    rcases Nat.lt_or_ge i (j + 1) with h1 | h1
    · exact Nat.le_trans (runs_mono w has (by omega : i ≤ j)) (runS_len w j _ _ _).1
    · rw [Nat.le_antisymm h h1]
      exact Nat.le_refl _

theorem runs_len (w : Nat) (has : Nat → Bool) : ∀ i, (runsP w has i).length ≤ i
  | 0 => Nat.le_refl _
  | i + 1 => Nat.le_trans (runS_len w i _ _ _).2 (Nat.succ_le_succ (runs_len w has i))

theorem runs_ext (w : Nat) {f g : Nat → Bool} : ∀ {n : Nat}, (∀ i, i < n → f i = g i) → runsP w f n = runsP w g n
  | 0, _ => rfl
  | n + 1, h => by
    rw [runs_succ, runs_succ, runs_ext w (fun i hi => h i (by omega)), h n (by omega), h (n - 1) (by omega)]

/-- what is answered: the runs, or nothing and 5 where there are more than 256 -/
def RunsO (L : List R) (w : World) (e : Ending) (w' : World) : Prop :=
  (L.length ≤ 256 ∧ ∃ v, e = .returned (.tuple #[v, .int .i64 0]) ∧ OwnR w' w.heap.size v L ∧ Below w.heap.size w w') ∨
  (256 < L.length ∧ e = .returned (.tuple #[.slice none 0 0, .int .i64 5]) ∧ Below w.heap.size w w')

end Go.Proofs.Ytahhcklkcibgoaa
