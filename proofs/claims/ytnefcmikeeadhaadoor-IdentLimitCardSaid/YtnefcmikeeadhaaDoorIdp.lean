/-
  Tables as lists of identifiers: what is free, what the calls keep (no memory).
-/
import Derived.Test.YtnefcmikeeadhaaDoorMpu
import Derived.Test.YtnefcmikeeadhaaDoorAllu
import Derived.Test.YtnefcmikeeadhaaDoorTaku
import Derived.Test.YtnefcmikeeadhaaDoorSml
namespace Go.Proofs.YtnefcmikeeadhaaDoor
open Go.RowKit

def lstN (s : Bool) : Nat := if s then 4294967295 else 4278190079

/-- what holds of a table behind c calls -/
structure GoodT (t : Tb) (c : Nat) : Prop where
  lo : (fstN t.sv : Int) - 1 ≤ t.lg
  few : t.lg ≤ (fstN t.sv : Int) - 1 + c
  lvc : t.lv.length ≤ c
  lv256 : t.lv.length ≤ 256
  rlc : t.rl.length ≤ c
  lvr : ∀ n ∈ t.lv, fstN t.sv ≤ n ∧ (n : Int) ≤ t.lg
  rlr : ∀ n ∈ t.rl, fstN t.sv ≤ n ∧ (n : Int) ≤ t.lg
  dis : ∀ n ∈ t.lv, n ∉ t.rl

theorem fst_pos (s : Bool) : 1 ≤ fstN s ∧ fstN s ≤ 4278190080 := by cases s <;> decide
theorem fst_lst (s : Bool) : fstN s + 1500 < lstN s ∧ lstN s ≤ 4294967295 := by cases s <;> decide

theorem good_new (s : Bool) : GoodT (newT s) 0 := by
  cases s
  all_goals exact ⟨by simp [newT, fstN], by simp [newT, fstN], Nat.le_refl _, by simp [newT], Nat.le_refl _, fun n h => by simp [newT] at h, fun n h => by simp [newT] at h, fun n h => by simp [newT] at h⟩

theorem GoodT.more {t : Tb} {c d : Nat} (h : GoodT t c) (hd : c ≤ d) : GoodT t d := ⟨h.lo, by have := h.few; omega, Nat.le_trans h.lvc hd, h.lv256, Nat.le_trans h.rlc hd, h.lvr, h.rlr, h.dis⟩
theorem GoodT.fits {t : Tb} {c : Nat} (h : GoodT t c) (hc : c ≤ 1500) : Few t := ⟨by have := h.lvc; omega, by have := h.rlc; omega⟩

theorem next_spec (l : List Nat) : ∀ (k i : Nat), cntN l i < k → nextF l k i ∉ l ∧ i ≤ nextF l k i ∧ ∀ j, i ≤ j → j < nextF l k i → j ∈ l
  | 0, _, h => by omega
  | k + 1, i, h => by
    unfold nextF
    split
    · rename_i hi
      have := cnt_next hi
      obtain ⟨h1, h2, h3⟩ := next_spec l k (i + 1) (by omega)
      refine ⟨h1, by omega, fun j hj hlt => ?_⟩
      by_cases e : j = i
      · subst e
        exact hi
      · exact h3 j (by omega) hlt
    · rename_i hi
      exact ⟨hi, Nat.le_refl _, fun j h1 h2 => by omega⟩

theorem frs_spec (t : Tb) : frsT t ∉ t.lv ∧ frsT t ∉ t.rl ∧ fstN t.sv ≤ frsT t ∧ ∀ j, fstN t.sv ≤ j → j < frsT t → j ∈ t.lv ∨ j ∈ t.rl := by
  obtain ⟨h1, h2, h3⟩ := next_spec (t.lv ++ t.rl) ((t.lv ++ t.rl).length + 1) (fstN t.sv) (Nat.lt_succ_of_le (cnt_le _ _))
  rw [List.mem_append, not_or] at h1
  exact ⟨h1.1, h1.2, h2, fun j hj hlt => List.mem_append.1 (h3 j hj hlt)⟩

theorem frs_le {t : Tb} {c : Nat} (h : GoodT t c) : (frsT t : Int) ≤ t.lg + 1 := by
  obtain ⟨_, _, h3, h4⟩ := frs_spec t
  apply Int.le_of_not_gt
  intro hlt
  have hp := (fst_pos t.sv).1
  have hlo := h.lo
  have := h4 (t.lg + 1).toNat (by omega) (by omega)
  rcases this with hm | hm
  · have := (h.lvr _ hm).2
    omega
  · have := (h.rlr _ hm).2
    omega

/-- the number n, counted from the first of the side, is free and was in use -/
def freeT (t : Tb) (n : Nat) : Prop := ((fstN t.sv + n : Nat) : Int) ≤ t.lg ∧ fstN t.sv + n ∉ t.lv ∧ fstN t.sv + n ∉ t.rl

theorem free_none {t : Tb} (h : t.lg < (frsT t : Int)) : ∀ m, ¬ freeT t m := by
  rintro m ⟨h1, h2, h3⟩
  obtain ⟨_, _, h4, h5⟩ := frs_spec t
  rcases h5 (fstN t.sv + m) (by omega) (by omega) with hm | hm
  · exact h2 hm
  · exact h3 hm

theorem free_least {t : Tb} (h : (frsT t : Int) ≤ t.lg) : Least (freeT t) (frsT t - fstN t.sv) := by
  obtain ⟨h1, h2, h3, h4⟩ := frs_spec t
  have e : fstN t.sv + (frsT t - fstN t.sv) = frsT t := by omega
  refine ⟨⟨by rw [e]; exact h, by rw [e]; exact h1, by rw [e]; exact h2⟩, fun m hm => ?_⟩
  obtain ⟨m1, m2, m3⟩ := hm
  apply Nat.le_of_not_lt
  intro hlt
  rcases h4 (fstN t.sv + m) (by omega) (by omega) with q | q
  · exact m2 q
  · exact m3 q

theorem free_new {t : Tb} {n : Nat} (h : (n : Int) = t.lg + 1) (m : Nat) : freeT t m ↔ freeT (usedT t n) m := by
  unfold freeT usedT
  simp only [List.mem_append, List.mem_singleton, not_or]
  constructor
  · rintro ⟨h1, h2, h3⟩
    exact ⟨by omega, ⟨h2, by omega⟩, h3⟩
  · rintro ⟨h1, ⟨h2, h4⟩, h3⟩
    exact ⟨by omega, h2, h3⟩

theorem free_old {t : Tb} {n : Nat} (h : (n : Int) ≤ t.lg) (hf : fstN t.sv ≤ n) (m : Nat) : (freeT t m ∧ m ≠ n - fstN t.sv) ↔ freeT (usedT t n) m := by
  unfold freeT usedT
  simp only [List.mem_append, List.mem_singleton, not_or]
  constructor
  · rintro ⟨⟨h1, h2, h3⟩, h4⟩
    exact ⟨by omega, ⟨h2, by omega⟩, h3⟩
  · rintro ⟨h1, ⟨h2, h4⟩, h3⟩
    exact ⟨⟨by omega, h2, h3⟩, by omega⟩

theorem free_rel {t : Tb} {n : Nat} (hn : n ∈ t.lv) (m : Nat) : freeT t m ↔ freeT ⟨t.sv, t.lg, wouN t.lv n, t.rl ++ [n]⟩ m := by
  unfold freeT
  simp only [List.mem_append, List.mem_singleton, not_or, wou_mem, not_and, Classical.not_not]
  constructor
  · rintro ⟨h1, h2, h3⟩
    exact ⟨h1, fun q => absurd q h2, h3, fun q => h2 (by rw [q]; exact hn)⟩
  · rintro ⟨h1, h2, h3, h4⟩
    exact ⟨h1, fun q => h4 (h2 q), h3⟩

theorem free_con {t : Tb} {c n : Nat} (h : GoodT t c) (hn : n ∈ t.rl) (m : Nat) : (freeT t m ∨ m = n - fstN t.sv) ↔ freeT ⟨t.sv, t.lg, t.lv, wouN t.rl n⟩ m := by
  have h0 := h.rlr n hn
  unfold freeT
  simp only [wou_mem, not_and, Classical.not_not]
  constructor
  · rintro (⟨h1, h2, h3⟩ | rfl)
    · exact ⟨h1, h2, fun q => absurd q h3⟩
    · have e : fstN t.sv + (n - fstN t.sv) = n := by omega
      rw [e]
      exact ⟨h0.2, fun q => h.dis n q hn, fun _ => rfl⟩
  · rintro ⟨h1, h2, h3⟩
    by_cases e : fstN t.sv + m ∈ t.rl
    · exact .inr (by have := h3 e; omega)
    · exact .inl ⟨h1, h2, e⟩

theorem good_used {t : Tb} {c n : Nat} (h : GoodT t c) (hl : t.lv.length < 256) (hn : n ∉ t.rl) (hf : fstN t.sv ≤ n) (hg : (n : Int) ≤ t.lg + 1) : GoodT (usedT t n) (c + 1) := by
  have h1 := h.lo
  have h2 := h.few
  have h3 := h.lvc
  have h4 := h.rlc
  unfold usedT
  refine ⟨by simp only; omega, by simp only; omega, by simp; omega, by simp; omega, by simp only; omega, fun m hm => ?_, fun m hm => ?_, fun m hm => ?_⟩
  · simp only [List.mem_append, List.mem_singleton] at hm
    rcases hm with hm | rfl
    · have := h.lvr m hm
      exact ⟨this.1, by simp only; omega⟩
    · exact ⟨hf, by simp only; omega⟩
  · have := h.rlr m hm
    exact ⟨this.1, by simp only; omega⟩
  · simp only [List.mem_append, List.mem_singleton] at hm
    rcases hm with hm | rfl
    · exact h.dis m hm
    · exact hn

theorem good_rel {t : Tb} {c n : Nat} (h : GoodT t c) (hn : n ∈ t.lv) : GoodT ⟨t.sv, t.lg, wouN t.lv n, t.rl ++ [n]⟩ (c + 1) := by
  have h2 := h.few
  have h3 := h.lvc
  have h4 := h.rlc
  have h5 := h.lv256
  have h6 := wou_le t.lv n
  refine ⟨h.lo, by simp only; omega, by simp only; omega, by simp only; omega, by simp; omega, fun m hm => h.lvr m (wou_mem.1 hm).1, fun m hm => ?_, fun m hm hr => ?_⟩
  · simp only [List.mem_append, List.mem_singleton] at hm
    rcases hm with hm | rfl
    · exact h.rlr m hm
    · exact h.lvr m hn
  · obtain ⟨q1, q2⟩ := wou_mem.1 hm
    simp only [List.mem_append, List.mem_singleton] at hr
    rcases hr with hr | hr
    · exact h.dis m q1 hr
    · exact q2 hr

theorem good_con {t : Tb} {c n : Nat} (h : GoodT t c) : GoodT ⟨t.sv, t.lg, t.lv, wouN t.rl n⟩ (c + 1) := by
  have h2 := h.few
  have h3 := h.lvc
  have h4 := h.rlc
  have h6 := wou_le t.rl n
  exact ⟨h.lo, by simp only; omega, by simp only; omega, h.lv256, by simp only; omega, h.lvr, fun m hm => h.rlr m (wou_mem.1 hm).1, fun m hm hr => h.dis m hm (wou_mem.1 hr).1⟩

theorem Levs.iff {S S' : Nat → Prop} {L : Nat → List Nat} (h : Levs S L) (hs : ∀ m, S m ↔ S' m) : Levs S' L := by
  have e : S = S' := funext fun m => propext (hs m)
  rw [← e]
  exact h

end Go.Proofs.YtnefcmikeeadhaaDoor
