/-
  The levels of a set of numbers: words whose bits stand for the numbers, and above them words whose bits stand for the words that are not 0 (no memory).
-/
import Derived.Lib.TrailingZeros
namespace Go.Proofs.YtnefcmikeeadhaaDoor

/-- level i of the set S in the words L -/
structure Lev (S : Nat → Prop) (i : Nat) (L : List Nat) : Prop where
  small : ∀ j : Nat, L[j]?.getD 0 < 18446744073709551616
  bit : ∀ j b : Nat, b < 64 → ((L[j]?.getD 0).testBit b = true ↔ ∃ m, S m ∧ m / 64 ^ i = j * 64 + b)

theorem lev_nil (S : Nat → Prop) (h : ∀ m, ¬ S m) (i : Nat) : Lev S i [] :=
  ⟨fun j => by simp, fun j b _ => by simp; intro m hm; exact absurd hm (h m)⟩

theorem getD_zero (L : List Nat) (j : Nat) : (L ++ [0])[j]?.getD 0 = L[j]?.getD 0 := by
  by_cases h : j < L.length
  · rw [List.getElem?_append_left h]
  · rw [List.getElem?_append_right (by omega)]
    rw [List.getElem?_eq_none (l := L) (by omega)]
    cases hh : j - L.length with
    | zero => simp
    | succ k => simp

theorem Lev.more {S : Nat → Prop} {i : Nat} {L : List Nat} (h : Lev S i L) : Lev S i (L ++ [0]) :=
  ⟨fun j => by rw [getD_zero]; exact h.small j, fun j b hb => by rw [getD_zero]; exact h.bit j b hb⟩

theorem getD_set {L : List Nat} {k : Nat} (hk : k < L.length) (x j : Nat) : (L.set k x)[j]?.getD 0 = if j = k then x else L[j]?.getD 0 := by
  by_cases e : j = k
  · subst e
    rw [if_pos rfl, List.getElem?_set_self hk]
    rfl
  · rw [if_neg e, List.getElem?_set_ne (Ne.symm e)]

theorem bit_split (j b q : Nat) (hb : b < 64) : (q = j * 64 + b) ↔ (j = q / 64 ∧ b = q % 64) := by omega

theorem Lev.add {S : Nat → Prop} {i : Nat} {L : List Nat} (h : Lev S i L) {n q : Nat} (hq : n / 64 ^ i = q) (hl : q / 64 < L.length) :
    Lev (fun m => S m ∨ m = n) i (L.set (q / 64) ((L[q / 64]?.getD 0) ||| 2 ^ (q % 64))) := by
  constructor
  · intro j
    rw [getD_set hl]
    split
    · have h1 := h.small (q / 64)
      have h2 : 2 ^ (q % 64) < 2 ^ 64 := Nat.pow_lt_pow_right (by decide) (by omega)
      exact Nat.or_lt_two_pow (n := 64) h1 h2
    · exact h.small j
  · intro j b hb
    rw [getD_set hl]
    have hB := h.bit j b hb
    split
    · rename_i e
      subst e
      rw [Nat.testBit_or, Bool.or_eq_true, hB, Nat.testBit_two_pow, decide_eq_true_eq]
      constructor
      · rintro (⟨m, h1, h2⟩ | h1)
        · exact ⟨m, .inl h1, h2⟩
        · exact ⟨n, .inr rfl, by rw [hq]; omega⟩
      · rintro ⟨m, h1 | rfl, h2⟩
        · exact .inl ⟨m, h1, h2⟩
        · rw [hq] at h2
          exact .inr (by omega)
    · rename_i e
      rw [hB]
      constructor
      · rintro ⟨m, h1, h2⟩
        exact ⟨m, .inl h1, h2⟩
      · rintro ⟨m, h1 | rfl, h2⟩
        · exact ⟨m, h1, h2⟩
        · rw [hq] at h2
          exact absurd (by omega) e

theorem lev_word {S : Nat → Prop} {i : Nat} {L : List Nat} (h : Lev S i L) (j : Nat) : (L[j]?.getD 0 = 0) ↔ ¬ ∃ m, S m ∧ m / 64 ^ (i + 1) = j := by
  have key : ∀ m, m / 64 ^ (i + 1) = m / 64 ^ i / 64 := fun m => by rw [Nat.pow_succ, Nat.div_div_eq_div_mul]
  constructor
  · rintro h0 ⟨m, h1, h2⟩
    rw [key] at h2
    have := (h.bit j (m / 64 ^ i % 64) (by omega)).2 ⟨m, h1, by omega⟩
    rw [h0] at this
    simp at this
  · intro hn
    apply Nat.eq_of_testBit_eq
    intro b
    rw [Nat.zero_testBit]
    by_cases hb : b < 64
    · cases hh : (L[j]?.getD 0).testBit b
      · rfl
      · obtain ⟨m, h1, h2⟩ := (h.bit j b hb).1 hh
        exact absurd ⟨m, h1, by rw [key]; omega⟩ hn
    · exact Nat.testBit_lt_two_pow (Nat.lt_of_lt_of_le (h.small j) (Nat.pow_le_pow_right (n := 2) (by decide) (show 64 ≤ b by omega)))

theorem Lev.there {S : Nat → Prop} {i : Nat} {L : List Nat} (h : Lev S i L) {n : Nat} (hn : S n) : n / 64 ^ i / 64 < L.length := by
  apply Nat.lt_of_not_le
  intro hle
  have := (h.bit (n / 64 ^ i / 64) (n / 64 ^ i % 64) (by omega)).2 ⟨n, hn, by omega⟩
  rw [List.getElem?_eq_none hle] at this
  simp at this

theorem testBit_clear (x b c : Nat) (hc : c < 64) (hb : b < 64) : (x &&& (18446744073709551615 - 2 ^ c)).testBit b = (x.testBit b && !decide (c = b)) := by
  rw [Nat.testBit_and]
  congr 1
  have h2 : 2 ^ c < 2 ^ 64 := Nat.pow_lt_pow_right (by decide) hc
  have e : 18446744073709551615 - 2 ^ c = 2 ^ 64 - (2 ^ c + 1) := by omega
  rw [e, Nat.testBit_two_pow_sub_succ h2, Nat.testBit_two_pow]
  simp [hb]

theorem Lev.rem {S : Nat → Prop} {i : Nat} {L : List Nat} (h : Lev S i L) {n q : Nat} (hn : S n) (hq : n / 64 ^ i = q) (hno : ∀ m, S m → m ≠ n → m / 64 ^ i ≠ q) :
    Lev (fun m => S m ∧ m ≠ n) i (L.set (q / 64) ((L[q / 64]?.getD 0) &&& (18446744073709551615 - 2 ^ (q % 64)))) := by
  have hl : q / 64 < L.length := by rw [← hq]; exact h.there hn
  constructor
  · intro j
    rw [getD_set hl]
    split
    · exact Nat.lt_of_le_of_lt Nat.and_le_left (h.small (q / 64))
    · exact h.small j
  · intro j b hb
    rw [getD_set hl]
    have hB := h.bit j b hb
    split
    · rename_i e
      subst e
      rw [testBit_clear _ _ _ (by omega) hb, Bool.and_eq_true, hB]
      simp only [Bool.not_eq_true', decide_eq_false_iff_not]
      constructor
      · rintro ⟨⟨m, h1, h2⟩, h3⟩
        refine ⟨m, ⟨h1, ?_⟩, h2⟩
        rintro rfl
        rw [hq] at h2
        omega
      · rintro ⟨m, ⟨h1, h3⟩, h2⟩
        refine ⟨⟨m, h1, h2⟩, ?_⟩
        have := hno m h1 h3
        omega
    · rename_i e
      rw [hB]
      constructor
      · rintro ⟨m, h1, h2⟩
        refine ⟨m, ⟨h1, ?_⟩, h2⟩
        rintro rfl
        rw [hq] at h2
        exact e (by omega)
      · rintro ⟨m, ⟨h1, h3⟩, h2⟩
        exact ⟨m, h1, h2⟩

theorem Lev.same {S S' : Nat → Prop} {i : Nat} {L : List Nat} (h : Lev S i L) (hs : ∀ x, (∃ m, S m ∧ m / 64 ^ i = x) ↔ (∃ m, S' m ∧ m / 64 ^ i = x)) : Lev S' i L :=
  ⟨h.small, fun j b hb => (h.bit j b hb).trans (hs _)⟩

/-- another number with the same beginning: the levels above do not change -/
theorem Lev.above {S : Nat → Prop} {i k : Nat} {L : List Nat} (h : Lev S k L) {n m1 : Nat} (hm : S m1) (hne : m1 ≠ n) (he : m1 / 64 ^ i = n / 64 ^ i) (hk : i ≤ k) : Lev (fun m => S m ∧ m ≠ n) k L := by
  refine h.same fun x => ⟨?_, fun ⟨m, ⟨h1, _⟩, h2⟩ => ⟨m, h1, h2⟩⟩
  rintro ⟨m, h1, h2⟩
  by_cases e : m = n
  · subst e
    refine ⟨m1, ⟨hm, hne⟩, ?_⟩
    obtain ⟨d, rfl⟩ : ∃ d, k = i + d := ⟨k - i, by omega⟩
    rw [← h2, Nat.pow_add, ← Nat.div_div_eq_div_mul, ← Nat.div_div_eq_div_mul, he]
  · exact ⟨m, ⟨h1, e⟩, h2⟩

theorem div_next (n i : Nat) : n / 64 ^ (i + 1) = n / 64 ^ i / 64 := by rw [Nat.pow_succ, Nat.div_div_eq_div_mul]

theorem ctz_bit {x : Nat} (h0 : x ≠ 0) (h : x < 2 ^ 64) : x.testBit (Lib.ctz 64 x) = true ∧ Lib.ctz 64 x < 64 ∧ ∀ b, b < Lib.ctz 64 x → x.testBit b = false := by
  obtain ⟨m, hm, hk⟩ := Lib.ctzFrom_spec 64 x (by omega) h
  have e : Lib.ctz 64 x = Lib.ctzFrom 64 x := by simp [Lib.ctz, h0]
  rw [e]
  generalize Lib.ctzFrom 64 x = k at *
  subst hm
  refine ⟨?_, hk, fun b hb => ?_⟩
  · rw [Nat.mul_comm, Nat.testBit_mul_two_pow]
    simp [Nat.testBit_zero]
  · rw [Nat.mul_comm, Nat.testBit_mul_two_pow]
    simp
    omega

/-- the least number's beginning is found level by level -/
theorem Lev.least {S : Nat → Prop} {i : Nat} {L : List Nat} (h : Lev S i L) {n : Nat} (hn : S n) (hmin : ∀ m, S m → n ≤ m) :
    n / 64 ^ (i + 1) < L.length ∧ L[n / 64 ^ (i + 1)]?.getD 0 ≠ 0 ∧ n / 64 ^ (i + 1) * 64 + Lib.ctz 64 (L[n / 64 ^ (i + 1)]?.getD 0) = n / 64 ^ i := by
  have h1 := h.there hn
  rw [← div_next] at h1
  have h2 : L[n / 64 ^ (i + 1)]?.getD 0 ≠ 0 := fun e => (lev_word h _).1 e ⟨n, hn, rfl⟩
  refine ⟨h1, h2, ?_⟩
  obtain ⟨c1, c2, c3⟩ := ctz_bit h2 (h.small _)
  generalize Lib.ctz 64 (L[n / 64 ^ (i + 1)]?.getD 0) = c at *
  obtain ⟨m, hm, he⟩ := (h.bit _ c c2).1 c1
  have h3 : n / 64 ^ i ≤ m / 64 ^ i := Nat.div_le_div_right (hmin m hm)
  have h4 : n / 64 ^ (i + 1) = n / 64 ^ i / 64 := div_next n i
  have h5 : ¬ n / 64 ^ i % 64 < c := fun hlt => by
    have := c3 _ hlt
    rw [(h.bit (n / 64 ^ (i + 1)) (n / 64 ^ i % 64) (by omega)).2 ⟨n, hn, by omega⟩] at this
    cases this
  omega

end Go.Proofs.YtnefcmikeeadhaaDoor
