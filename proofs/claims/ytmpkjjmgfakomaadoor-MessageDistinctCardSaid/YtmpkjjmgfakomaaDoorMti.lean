/-
  What Decode accepts is what its arguments encode. No program is named here.
-/
import Derived.Test.YtmpkjjmgfakomaaDoorMth
namespace Go.Proofs.YtmpkjjmgfakomaaDoor
open Go.RowKit Wire

theorem enc4_at4 {bs : List UInt8} (h : 4 ≤ bs.length) : enc4 (at4 bs) ++ bs.drop 4 = bs := by
  match bs, h with
  | a :: b :: c :: d :: r, _ =>
    have ha := a.toNat_lt
    have hb := b.toNat_lt
    have hc := c.toNat_lt
    have hd := d.toNat_lt
    show UInt8.ofNat (num4 a.toNat b.toNat c.toNat d.toNat) :: UInt8.ofNat (num4 a.toNat b.toNat c.toNat d.toNat / 256) :: UInt8.ofNat (num4 a.toNat b.toNat c.toNat d.toNat / 65536) :: UInt8.ofNat (num4 a.toNat b.toNat c.toNat d.toNat / 16777216) :: r = a :: b :: c :: d :: r
    have e : ∀ (n : Nat) (x : UInt8), n % 256 = x.toNat → UInt8.ofNat n = x := fun n x h => by
      apply UInt8.toNat_inj.1
      rw [UInt8.toNat_ofNat']
      exact h
    unfold num4
    rw [e _ a (by omega), e _ b (by omega), e _ c (by omega), e _ d (by omega)]

theorem num_inv {bs r : List UInt8} {n : Nat} (h : numS (bs, 0) = ((r, 0), n)) : bs = enc4 n ++ r ∧ n < 4294967296 := by
  unfold numS at h
  dsimp only at h
  split at h
  · simp [failS] at h
  · simp only [Prod.mk.injEq] at h
    obtain ⟨⟨rfl, -⟩, rfl⟩ := h
    exact ⟨(enc4_at4 (by omega)).symm, at4_lt bs⟩

theorem count_inv {bs r out : List UInt8} {most : Int} (h : countS (bs, 0) most = ((r, 0), out)) : bs = encA out ++ r ∧ (out.length : Int) ≤ max most 0 := by
  unfold countS at h
  by_cases hl : bs.length < 4
  · rw [num_short bs hl] at h
    dsimp only at h
    have h1 : limS ([], 4) 0 most = ([], 4) := by
      unfold limS failS; split <;> simp
    rw [h1] at h
    simp [cutS, up] at h
  · have hn : numS (bs, 0) = ((bs.drop 4, 0), at4 bs) := by
      unfold numS
      rw [if_neg hl]
    rw [hn] at h
    dsimp only at h
    obtain ⟨n, hN⟩ : ∃ n, at4 bs = n := ⟨_, rfl⟩
    have e0 := enc4_at4 (bs := bs) (by omega)
    rw [hN] at h e0
    obtain ⟨t, ht⟩ : ∃ t, bs.drop 4 = t := ⟨_, rfl⟩
    rw [ht] at h e0
    by_cases hlim : max most 0 < (n : Int)
    · have h1 : limS (t, 0) n most = ([], 5) := by
        unfold limS
        rw [if_pos hlim]
        rfl
      rw [h1, cutS] at h
      dsimp only at h
      rw [if_pos (by have := up_ge n; simp only [List.length_nil]; omega)] at h
      simp [failS] at h
    · have h1 : limS (t, 0) n most = (t, 0) := by
        unfold limS
        rw [if_neg hlim]
      rw [h1, cutS] at h
      dsimp only at h
      split at h
      · simp [failS] at h
      · rename_i hs
        split at h
        · rename_i hz
          simp only [Prod.mk.injEq] at h
          obtain ⟨⟨rfl, -⟩, rfl⟩ := h
          have hup := up_ge n
          have hlen : (t.take n).length = n := by rw [List.length_take]; omega
          refine ⟨?_, by rw [hlen]; omega⟩
          unfold encA
          rw [hlen, ← e0, List.append_assoc, List.append_assoc]
          congr 1
          have e1 : t = t.take (up n) ++ t.drop (up n) := (List.take_append_drop _ _).symm
          have e2 : t.take (up n) = t.take n ++ List.replicate (pad n) 0 := by
            have e3 : t.take (up n) = (t.take (up n)).take n ++ (t.take (up n)).drop n := (List.take_append_drop _ _).symm
            rw [hz, List.take_take, Nat.min_eq_left hup.1, up_pad, Nat.add_sub_cancel_left] at e3
            rw [up_pad]
            exact e3
          conv => lhs; rw [e1, e2]
          rw [List.append_assoc]
        · simp [failS] at h

theorem str_inv {bs r out : List UInt8} {most : Int} (h : strS (bs, 0) most = ((r, 0), out)) : bs = encA out ++ r ∧ (out.length : Int) ≤ max most 0 ∧ (0 : UInt8) ∉ out := by
  unfold strS at h
  split at h
  · rename_i hz
    have h2 : (failS (countS (bs, 0) most).1 3).2 = 0 := congrArg (fun x => x.1.2) h
    unfold failS at h2
    split at h2
    · simp at h2
    · rename_i he
      exact absurd h2 he
  · rename_i hz
    rw [h] at hz
    obtain ⟨h1, h2⟩ := count_inv h
    exact ⟨h1, h2, hz⟩

theorem wrap32_range (n : Int) : -2147483648 ≤ wrap32 n ∧ wrap32 n < 2147483648 := by unfold wrap32; omega
theorem wrap32_mod {n : Nat} (h : n < 4294967296) : (wrap32 (n : Int) % 4294967296).toNat = n := by
  unfold wrap32
  omega
theorem sl_mk (l : List UInt8) : sl ⟨l.toArray⟩ = l := by simp [sl]

theorem fst_snd {s : St} (h : s.2 = 0) : s = (s.1, 0) := by
  obtain ⟨a, b⟩ := s
  dsimp only at h
  rw [h]

theorem tidy_num {k : Nat} {n : Int} (h4 : k ≠ 4) (h7 : k ≠ 7) : tidyB ⟨k, n, ⟨#[]⟩, []⟩ k = true := by
  unfold tidyB
  rw [decide_eq_true (show ((k : Int) = (k : Int)) from rfl), decide_eq_false h4, decide_eq_false h7]
  rfl
theorem tidy_str {s : ByteArray} : tidyB ⟨(4 : Nat), 0, s, []⟩ 4 = true := rfl
theorem tidy_arr {b : List UInt8} : tidyB ⟨(7 : Nat), 0, ⟨#[]⟩, b⟩ 7 = true := rfl
theorem encG_str {n : Int} {s : ByteArray} {b : List UInt8} : encG ⟨(4 : Nat), n, s, b⟩ = encA (sl s) := rfl
theorem encG_arr {n : Int} {s : ByteArray} {b : List UInt8} : encG ⟨(7 : Nat), n, s, b⟩ = encA b := rfl
theorem encG_num {k : Nat} {n : Int} {s : ByteArray} {b : List UInt8} (h4 : k ≠ 4) (h7 : k ≠ 7) : encG ⟨k, n, s, b⟩ = enc4 (n % 4294967296).toNat := by
  unfold encG
  rw [if_neg (show ¬ (k : Int) = 4 by omega), if_neg (show ¬ (k : Int) = 7 by omega)]
theorem big_num {k n : Int} : bigB ⟨k, n, ⟨#[]⟩, []⟩ = false := rfl
theorem zer_num {k n : Int} {b : List UInt8} : zerB ⟨k, n, ⟨#[]⟩, b⟩ = false := rfl

theorem read_inv {bs : List UInt8} {k : Nat} (hk : 1 ≤ k ∧ k ≤ 7) (h0 : (readG (bs, 0) k).1.2 = 0) (hr : rngB (readG (bs, 0) k).2 = true) :
    bs = encG (readG (bs, 0) k).2 ++ (readG (bs, 0) k).1.1 ∧ tidyB (readG (bs, 0) k).2 k = true ∧ zerB (readG (bs, 0) k).2 = false ∧ bigB (readG (bs, 0) k).2 = false := by
  unfold readG at h0 hr ⊢
  by_cases k1 : k = 1 ∨ k = 3
  · rw [if_pos k1] at h0 hr ⊢
    dsimp only at h0 hr ⊢
    obtain ⟨e, hn⟩ := num_inv (bs := bs) (r := (numS (bs, 0)).1.1) (n := (numS (bs, 0)).2) (by rw [← fst_snd h0])
    refine ⟨?_, tidy_num (by omega) (by omega), zer_num, big_num⟩
    rw [encG_num (by omega) (by omega), wrap32_mod hn]
    exact e
  rw [if_neg k1] at h0 hr ⊢
  by_cases k4 : k = 4
  · subst k4
    rw [if_pos rfl] at h0 hr ⊢
    dsimp only at h0 hr ⊢
    obtain ⟨e, hl, hz⟩ := str_inv (bs := bs) (r := (strS (bs, 0) 1024).1.1) (out := (strS (bs, 0) 1024).2) (most := 1024) (by rw [← fst_snd h0])
    refine ⟨?_, tidy_str, ?_, ?_⟩
    · rw [encG_str, sl_mk]
      exact e
    · unfold zerB
      rw [sl_mk]
      exact decide_eq_false hz
    · unfold bigB
      rw [← sl_len, sl_mk, decide_eq_false (by omega)]
      rfl
  rw [if_neg k4] at h0 hr ⊢
  by_cases k7 : k = 7
  · subst k7
    rw [if_pos rfl] at h0 hr ⊢
    dsimp only at h0 hr ⊢
    obtain ⟨e, hl⟩ := count_inv (bs := bs) (r := (countS (bs, 0) 1024).1.1) (out := (countS (bs, 0) 1024).2) (most := 1024) (by rw [← fst_snd h0])
    refine ⟨?_, tidy_arr, zer_num, ?_⟩
    · rw [encG_arr]
      exact e
    · unfold bigB
      dsimp only
      rw [decide_eq_false (show ¬ 1024 < (countS (bs, 0) 1024).2.length by omega)]
      rfl
  rw [if_neg k7] at h0 hr ⊢
  dsimp only at h0 hr ⊢
  obtain ⟨e, hn⟩ := num_inv (bs := bs) (r := (numS (bs, 0)).1.1) (n := (numS (bs, 0)).2) (by rw [← fst_snd h0])
  refine ⟨?_, tidy_num k4 k7, zer_num, big_num⟩
  rw [encG_num k4 k7, Int.emod_eq_of_lt (by omega) (by omega), Int.toNat_natCast]
  exact e

theorem dec_inv : ∀ (ks : List Nat), (∀ k ∈ ks, 1 ≤ k ∧ k ≤ 7) → ∀ (bs : List UInt8) (acc out : List Ag), decF (bs, 0) acc ks = (out, 0) → ∃ l, out = acc ++ l ∧ Good l ks ∧ bs = bodT l
  | [], _, bs, acc, out, h => by
    unfold decF at h
    split at h
    · rename_i he
      simp only [Prod.mk.injEq] at h
      exact absurd h.2 he
    · rename_i he
      simp only [Prod.mk.injEq, and_true] at h
      have hb : bs = [] := by
        unfold endS at he
        dsimp only at he
        by_cases hb : 0 < bs.length
        · rw [if_pos ⟨rfl, hb⟩] at he
          exact absurd (by decide) he
        · exact List.eq_nil_of_length_eq_zero (by omega)
      exact ⟨[], by rw [List.append_nil, h], ⟨rfl, fun k hk => by simp at hk, rfl, rfl, rfl, rfl⟩, hb⟩
  | k :: ks, hk, bs, acc, out, h => by
    unfold decF at h
    split at h
    · rename_i he
      simp only [Prod.mk.injEq] at h
      exact absurd h.2 he
    rename_i he
    split at h
    · simp at h
    rename_i hr
    have he' : (readG (bs, 0) k).1.2 = 0 := by simpa using he
    have hr' : rngB (readG (bs, 0) k).2 = true := by simpa using hr
    obtain ⟨e1, e2, e3, e4⟩ := read_inv (hk k (by simp)) he' hr'
    rw [fst_snd he'] at h
    obtain ⟨l, h1, ⟨g0, g1, g2, g3, g4, g5⟩, h3⟩ := dec_inv ks (fun k hk' => hk k (by simp [hk'])) _ _ _ h
    refine ⟨(readG (bs, 0) k).2 :: l, by rw [h1, List.append_assoc]; rfl, ⟨by simp [g0], hk, ?_, ?_, ?_, ?_⟩, ?_⟩
    · simp only [tidyAll, e2, g2, Bool.and_self]
    · simp only [List.all_cons, hr', g3, Bool.and_self]
    · simp only [List.any_cons, e3, g4, Bool.or_self]
    · simp only [List.any_cons, e4, g5, Bool.or_self]
    · rw [bod_cons, ← h3]
      exact e1

/-- what Encode says of arguments that it accepts -/
theorem good_chk {ks : List Nat} {m : Ms} (h : Good m.ags ks) (h0 : 0 ≤ m.oc) (h1 : m.oc ≤ 65535) : chkT (some ks) m = 0 := by
  obtain ⟨g0, g1, g2, g3, g4, g5⟩ := h
  unfold chkT
  dsimp only
  rw [if_neg (by omega), if_neg (by simp [g2]), if_neg (by omega), if_neg (by simp [g3]), if_neg (by simp [g4]), if_neg (by simp [g5])]

end Go.Proofs.YtmpkjjmgfakomaaDoor
