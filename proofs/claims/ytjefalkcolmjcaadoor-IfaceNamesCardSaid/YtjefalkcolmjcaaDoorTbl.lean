/-
  The table of interfaces: what the laws want of it (no program).
-/
import Derived.Test.YtjefalkcolmjcaaDoorExam
namespace Go.Proofs.YtjefalkcolmjcaaDoor
open Go.RowKit

theorem opcF_ok : ∀ {l : List On} {o : ByteArray} {k : Nat} {r : Int}, opcF l o k = (r, true) → ∃ j x, r = ((k + j : Nat) : Int) ∧ l[j]? = some x ∧ x.nm = o
  | [], o, k, r, h => by
    unfold opcF at h
    cases h
  | x :: l, o, k, r, h => by
    unfold opcF at h
    by_cases hx : x.nm = o
    · rw [if_pos hx] at h
      refine ⟨0, x, ?_, rfl, hx⟩
      injection h with h1 h2
      exact h1.symm
    · rw [if_neg hx] at h
      obtain ⟨j, y, h1, h2, h3⟩ := opcF_ok h
      exact ⟨j + 1, y, by omega, h2, h3⟩

theorem all_ite {c : Prop} [Decidable c] {p : On → Bool} {a b : List On} (ha : a.all p = true) (hb : b.all p = true) : (if c then a else b).all p = true := by
  by_cases h : c
  · rw [if_pos h]
    exact ha
  · rw [if_neg h]
    exact hb

theorem reqT_small (n : ByteArray) : (reqT n).all (fun x => decide (x.sn ≤ 100)) = true := by
  unfold reqT
  repeat refine all_ite (by decide) ?_
  decide

theorem ver_step {c : Prop} [Decidable c] {a b : Int} (h : (if c then a else b) = 0) (ha : a ≠ 0) : ¬ c ∧ b = 0 := by
  by_cases hc : c
  · rw [if_pos hc] at h
    exact absurd h ha
  · rw [if_neg hc] at h
    exact ⟨hc, h⟩

theorem reqT_none {n : ByteArray} (h : verT n = 0) : reqT n = [] := by
  unfold verT at h
  obtain ⟨h0, h⟩ := ver_step h (by decide)
  obtain ⟨h1, h⟩ := ver_step h (by decide)
  obtain ⟨h2, h⟩ := ver_step h (by decide)
  obtain ⟨h3, h⟩ := ver_step h (by decide)
  obtain ⟨h4, h⟩ := ver_step h (by decide)
  obtain ⟨h5, h⟩ := ver_step h (by decide)
  obtain ⟨h6, h⟩ := ver_step h (by decide)
  obtain ⟨h7, h⟩ := ver_step h (by decide)
  obtain ⟨h8, h⟩ := ver_step h (by decide)
  obtain ⟨h9, h⟩ := ver_step h (by decide)
  obtain ⟨h10, h⟩ := ver_step h (by decide)
  obtain ⟨h11, h⟩ := ver_step h (by decide)
  obtain ⟨h12, h⟩ := ver_step h (by decide)
  obtain ⟨h13, h⟩ := ver_step h (by decide)
  obtain ⟨h14, _⟩ := ver_step h (by decide)
  unfold reqT
  rw [if_neg h0, if_neg h1, if_neg h3, if_neg h4, if_neg h5, if_neg h6, if_neg h7, if_neg h8, if_neg h9, if_neg h10, if_neg h11, if_neg h12, if_neg h13, if_neg h14]

/-- what RequestOpcode finds Request returns -/
theorem opc_pick {n o : ByteArray} {r : Int} (h : opcF (reqT n) o 0 = (r, true)) : ∃ sg sn, pickT n (reqT n) r 100 = (⟨o, sg, sn⟩, 0) := by
  obtain ⟨j, x, rfl, hx, hn⟩ := opcF_ok h
  rw [Nat.zero_add]
  have hl : j < (reqT n).length := (List.getElem?_eq_some_iff.1 hx).1
  have hv : verT n ≠ 0 := by
    intro e
    rw [reqT_none e] at hl
    exact absurd hl (by simp)
  have hs : x.sn ≤ 100 := by
    have := List.all_eq_true.1 (reqT_small n) x (List.mem_of_getElem? hx)
    exact of_decide_eq_true this
  have e : (reqT n).getD (j : Int).toNat ⟨s_0, s_0, 0⟩ = x := by
    rw [Int.toNat_natCast, List.getD_eq_getElem?_getD, hx]
    rfl
  refine ⟨x.sg, x.sn, ?_⟩
  unfold pickT
  rw [if_neg hv, if_neg (by omega), e, if_neg (by omega), ← hn]

/-- what exists in a version exists in the next one -/
theorem pick_next {n : ByteArray} {l : List On} {k v : Int} {x : On} (h : pickT n l k v = (x, 0)) : pickT n l k (v + 1) = (x, 0) ∧ x.sn ≤ v := by
  unfold pickT at h ⊢
  by_cases h0 : verT n = 0
  · rw [if_pos h0] at h
    injection h with h1 h2
    cases h2
  · rw [if_neg h0] at h ⊢
    by_cases h1 : k < 0 ∨ (l.length : Int) ≤ k
    · rw [if_pos h1] at h
      injection h with h1 h2
      cases h2
    · rw [if_neg h1] at h ⊢
      by_cases h2 : v < (l.getD k.toNat ⟨s_0, s_0, 0⟩).sn
      · rw [if_pos h2] at h
        injection h with h1 h2
        cases h2
      · rw [if_neg h2] at h
        rw [if_neg (by omega), h]
        injection h with h3 h4
        rw [← h3]
        exact ⟨rfl, by omega⟩

end Go.Proofs.YtjefalkcolmjcaaDoor
