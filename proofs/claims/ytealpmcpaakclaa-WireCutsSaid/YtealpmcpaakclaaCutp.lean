/-
  Plain laws: reading what was cut off.
-/
import Derived.Test.YtealpmcpaakclaaPlain
namespace Go.Proofs.Ytealpmcpaakclaa
open Go.RowKit Mem Wire

theorem num_short (bs : List UInt8) (h : bs.length < 4) : numS (bs, 0) = (([], 4), 0) := by
  unfold numS
  rw [if_pos h]; rfl

theorem num_stuck : numS ([], 4) = (([], 4), 0) := by decide

theorem count_stuck (most : Int) : cutS (limS ([], 4) 0 most) 0 = (([], 4), []) := by
  have h : limS ([], 4) 0 most = ([], 4) := by
    unfold limS failS; split <;> simp
  rw [h]; decide

theorem read_stuck (kind most : Int) : readS ([], 4) kind most = (([], 4), 0, []) := by
  have hc : countS ([], 4) most = (([], 4), []) := by
    unfold countS; rw [num_stuck]; exact count_stuck most
  have hs : strS ([], 4) most = (([], 4), []) := by
    unfold strS; rw [hc]; simp
  unfold readS
  rw [num_stuck, hc, hs]
  split
  · rfl
  · split <;> rfl

theorem count_cut (b : List UInt8) (hb : b.length < 4294967296) (q : Nat) (hq : q < (encA b).length) (most : Int) (h : (b.length : Int) ≤ max most 0) : countS ((encA b).take q, 0) most = (([], 4), []) := by
  have hl : (encA b).length = 4 + up b.length := by
    have := up_pad b.length
    simp [encA, enc4]; omega
  unfold countS
  by_cases h4 : q < 4
  · rw [num_short _ (by rw [List.length_take]; omega)]
    exact count_stuck most
  · have e : (encA b).take q = enc4 b.length ++ (b ++ List.replicate (pad b.length) 0).take (q - 4) := by
      rw [encA, List.append_assoc, List.take_append]
      have : (enc4 b.length).take q = enc4 b.length := List.take_of_length_le (by simp [enc4]; omega)
      rw [this]; rfl
    rw [e, num_enc _ hb]
    dsimp only
    rw [limS, if_neg (by omega), cutS]
    dsimp only
    rw [if_pos (by rw [List.length_take]; omega)]
    rfl

theorem str_cut (b : List UInt8) (hb : b.length < 4294967296) (q : Nat) (hq : q < (encA b).length) (most : Int) (h : (b.length : Int) ≤ max most 0) : strS ((encA b).take q, 0) most = (([], 4), []) := by
  unfold strS; rw [count_cut b hb q hq most h]; simp

theorem read_cut (t : It) (hb : t.b.length < 4294967296) (q : Nat) (hq : q < t.enc.length) (most : Int) (h : (t.b.length : Int) ≤ max most 0) : readS (t.enc.take q, 0) t.k most = (([], 4), 0, []) := by
  unfold readS It.enc at *
  by_cases h0 : t.k = 0 ∨ t.k = 1
  · rw [if_pos h0] at hq
    have h4 : q < 4 := by simpa [enc4] using hq
    rw [if_pos h0, if_pos h0, num_short _ (by rw [List.length_take]; omega)]
  · rw [if_neg h0] at hq
    rw [if_neg h0, if_neg h0]
    split
    · rw [str_cut _ hb q hq most h]
    · rw [count_cut _ hb q hq most h]

/-- a string with a zero byte is refused -/
theorem read_zero (t : It) (r : List UInt8) (hb : t.b.length < 4294967296) (most : Int) (h : (t.b.length : Int) ≤ max most 0) (hr : t.readable = false) : readS (t.enc ++ r, 0) t.k most = (([], 3), 0, []) := by
  have h2 : t.k = 2 ∧ (0 : UInt8) ∈ t.b := by simpa [It.readable] using hr
  have h0 : ¬(t.k = 0 ∨ t.k = 1) := by omega
  unfold readS It.enc
  rw [if_neg h0, if_neg h0, if_pos h2.1, strS, count_enc _ _ hb most h, if_pos h2.2]
  rfl

/-- the state of the reader after j items of a stream that was cut: still good, or truncated -/
def Cutting (l : List It) (j : Nat) (s : St) : Prop := (∃ c, 1 ≤ c ∧ c ≤ (encAll (l.drop j)).length ∧ s = ((encAll (l.drop j)).take ((encAll (l.drop j)).length - c), 0)) ∨ s = ([], 4)

theorem cutting_end {l : List It} {s : St} (h : Cutting l l.length s) : s = ([], 4) := by
  rcases h with ⟨c, h1, h2, _⟩ | h
  · rw [List.drop_length] at h2
    simp [encAll] at h2
    omega
  · exact h

/-- one item of it: it is refused as a string with a zero byte, or read well, or truncated -/
theorem cutting_step {l : List It} {j : Nat} {t : It} {s : St} (ht : l[j]? = some t) (hn : t.n < 4294967296) (hb : t.b.length ≤ 300) (h : Cutting l j s) :
    (t.readable = false ∧ readS s t.k 300 = (([], 3), 0, [])) ∨ (∃ s' n b, readS s t.k 300 = ((s', 0), n, b) ∧ Cutting l (j + 1) (s', 0)) ∨ (readS s t.k 300 = (([], 4), 0, []) ∧ Cutting l (j + 1) ([], 4)) := by
  rcases h with ⟨c, h1, h2, rfl⟩ | rfl
  · have hk := (List.getElem?_eq_some_iff.1 ht).1
    have he : l[j] = t := (List.getElem?_eq_some_iff.1 ht).2
    have hd : encAll (l.drop j) = t.enc ++ encAll (l.drop (j + 1)) := by
      rw [List.drop_eq_getElem_cons hk, he]
      simp [encAll]
    rw [hd] at h2 ⊢
    generalize hR : encAll (l.drop (j + 1)) = R at *
    rw [List.length_append] at h2 ⊢
    by_cases hc : c ≤ R.length
    · have e : (t.enc ++ R).take (t.enc.length + R.length - c) = t.enc ++ R.take (R.length - c) := by
        rw [List.take_append, List.take_of_length_le (by omega)]
        congr 2
        omega
      rw [e]
      cases hr : t.readable with
      | false => exact .inl ⟨rfl, read_zero t _ (by omega) 300 (by omega) hr⟩
      | true =>
        have hcut : Cutting l (j + 1) (R.take (R.length - c), 0) := .inl ⟨c, h1, by rw [hR]; exact hc, by rw [hR]⟩
        have h := read_enc t (R.take (R.length - c)) hn (by omega) hr 300 (by omega)
        by_cases h0 : t.k = 0 ∨ t.k = 1
        · rw [if_pos h0] at h; exact .inr (.inl ⟨_, _, _, h, hcut⟩)
        · rw [if_neg h0] at h; exact .inr (.inl ⟨_, _, _, h, hcut⟩)
    · have e : (t.enc ++ R).take (t.enc.length + R.length - c) = t.enc.take (t.enc.length + R.length - c) := by
        rw [List.take_append, show t.enc.length + R.length - c - t.enc.length = 0 by omega, List.take_zero, List.append_nil]
      rw [e]
      exact .inr (.inr ⟨read_cut t (by omega) _ (by omega) 300 (by omega), .inr rfl⟩)
  · exact .inr (.inr ⟨read_stuck _ _, .inr rfl⟩)

end Go.Proofs.Ytealpmcpaakclaa
