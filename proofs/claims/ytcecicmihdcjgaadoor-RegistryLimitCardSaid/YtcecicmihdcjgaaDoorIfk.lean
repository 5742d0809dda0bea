/-
  Operations in memory; one, kind and Names of the reference.
-/
import Derived.Test.YtcecicmihdcjgaaDoorIft
namespace Go.Proofs.YtcecicmihdcjgaaDoor
open Go.RowKit

theorem names_any (w : World) : Calls Tryd.prog 25 #[] w fun e w' => e = .returned (.slice (some ⟨w.heap.size, 0, none⟩) 15 15) ∧ w' = w.alloc (.cells (namT.map Value.string).toArray 9) := by
  go_enter Tryd.func25, Tryd.ntmps25
  go_wp2_with fail
  go_ret
  exact ⟨rfl, rfl⟩

def cellsO (l : List On) : List Value := l.flatMap fun o => [.string o.nm, .string o.sg, .int .i64 o.sn]

/-- the slice value v holds the operations l -/
def Opns (W : World) (v : Value) (l : List On) : Prop :=
  ∃ (A : Option Addr) (cap : Nat), v = .slice A l.length cap ∧ l.length ≤ cap ∧ cap ≤ maxLen ∧
    (0 < l.length → ∃ b off, A = some ⟨b, off, none⟩ ∧ b < W.heap.size ∧ ∀ (j : Nat) (o : On), l[j]? = some o → W.cell? ⟨b, off + j * 3, none⟩ = some (.string o.nm) ∧ W.cell? ⟨b, off + j * 3 + 1, none⟩ = some (.string o.sg) ∧ W.cell? ⟨b, off + j * 3 + 2, none⟩ = some (.int .i64 o.sn))

theorem Opns.below {w w' : World} {v : Value} {l : List On} (h : Opns w v l) (hb : Below w.heap.size w w') : Opns w' v l := by
  obtain ⟨A, cap, hv, h1, h2, h4⟩ := h
  refine ⟨A, cap, hv, h1, h2, fun hn => ?_⟩
  obtain ⟨b, off, hA, hlt, hc⟩ := h4 hn
  refine ⟨b, off, hA, Nat.lt_of_lt_of_le hlt hb.size, fun j o ho => ?_⟩
  rw [hb.cell (p := ⟨b, off + j * 3, none⟩) hlt, hb.cell (p := ⟨b, off + j * 3 + 1, none⟩) hlt, hb.cell (p := ⟨b, off + j * 3 + 2, none⟩) hlt]
  exact hc j o ho

theorem opns_nil (w : World) : Opns w (.slice none 0 0) [] := ⟨none, 0, rfl, Nat.le_refl _, by simp [maxLen], fun h => by simp at h⟩

theorem cellsO_at {l : List On} {j : Nat} {o : On} (h : l[j]? = some o) : (cellsO l)[j * 3]? = some (.string o.nm) ∧ (cellsO l)[j * 3 + 1]? = some (.string o.sg) ∧ (cellsO l)[j * 3 + 2]? = some (.int .i64 o.sn) := by
  induction l generalizing j with
  | nil => simp at h
  | cons a l ih =>
    cases j with
    | zero =>
      simp only [List.getElem?_cons_zero, Option.some.injEq] at h
      subst h
      exact ⟨rfl, rfl, rfl⟩
    | succ j =>
      simp only [List.getElem?_cons_succ] at h
      obtain ⟨h0, h1, h2⟩ := ih h
      have e : cellsO (a :: l) = .string a.nm :: .string a.sg :: .int .i64 a.sn :: cellsO l := rfl
      have e0 : (j + 1) * 3 = j * 3 + 3 := by omega
      rw [e, e0]
      exact ⟨h0, h1, h2⟩

/-- a block just made that holds the operations l -/
theorem opns_new (w : World) (l : List On) (hl : l.length ≤ 1000) (t : TypeId) : Opns (w.alloc (.cells (cellsO l).toArray t)) (.slice (some ⟨w.heap.size, 0, none⟩) l.length l.length) l := by
  refine ⟨_, l.length, rfl, Nat.le_refl _, by simp only [maxLen]; omega, fun _ => ⟨w.heap.size, 0, rfl, by simp, fun j o ho => ?_⟩⟩
  obtain ⟨h0, h1, h2⟩ := cellsO_at ho
  rw [Nat.zero_add]
  refine ⟨?_, ?_, ?_⟩
  · rw [World.cell?_alloc_at _ _ _ _ rfl]
    simpa using h0
  · rw [World.cell?_alloc_at _ _ _ _ rfl]
    simpa using h1
  · rw [World.cell?_alloc_at _ _ _ _ rfl]
    simpa using h2

theorem toList_data (s : ByteArray) : s.toList = s.data.toList := by
  obtain ⟨⟨l⟩⟩ := s
  exact ByteArray.toList_mk l

/-- strings that differ, as the walk compares them -/
theorem str_ne {a b : ByteArray} (h : ¬ a = b) : (a.toList == b.toList) = false := by
  rw [beq_eq_false_iff_ne, toList_data, toList_data]
  intro e
  apply h
  obtain ⟨⟨x⟩⟩ := a
  obtain ⟨⟨y⟩⟩ := b
  simp at e
  rw [e]

/-- a list of operations, with nothing older turned -/
def GivesO (l : List On) (w : World) (e : Ending) (w' : World) : Prop := ∃ v, e = .returned v ∧ Opns w' v l ∧ Below w.heap.size w w'

end Go.Proofs.YtcecicmihdcjgaaDoor
