/-
  Texts of messages: two messages that Encode accepts for one signature and that have the same text are equal. No program is named here.
-/
import Derived.Test.YtmpkjjmgfakomaaDoorMth
import Derived.Lib.ItoaNum
namespace Go.Proofs.YtmpkjjmgfakomaaDoor
open Go.RowKit Wire Go.Lib

/-! digits -/

def isDig (c : UInt8) : Bool := decide (48 ≤ c.toNat) && decide (c.toNat ≤ 57)
def numN (l : List UInt8) : Nat := l.foldl (fun n c => n * 10 + (c.toNat - 48)) 0
theorem dig_iff {c : UInt8} : isDig c = true ↔ 48 ≤ c.toNat ∧ c.toNat ≤ 57 := by simp [isDig]
theorem ofNat_dig {n : Nat} (h : n < 10) : (UInt8.ofNat (48 + n)).toNat = 48 + n := by
  rw [UInt8.toNat_ofNat']; omega
theorem dig_ofNat {n : Nat} (h : n < 10) : isDig (UInt8.ofNat (48 + n)) = true := by
  rw [dig_iff, ofNat_dig h]; omega
theorem numN_snoc (l : List UInt8) (c : UInt8) : numN (l ++ [c]) = numN l * 10 + (c.toNat - 48) := by simp [numN, List.foldl_append]
theorem dec_small {n : Nat} (h : n < 10) : decDigits n = [UInt8.ofNat (48 + n)] := Go.Lib.decDigits_one h
theorem dec_big {n : Nat} (h : ¬ n < 10) : decDigits n = decDigits (n / 10) ++ [UInt8.ofNat (48 + n % 10)] := by rw [decDigits, dif_neg h]
theorem dec_facts (n : Nat) : (decDigits n).all isDig = true ∧ numN (decDigits n) = n ∧ decDigits n ≠ [] := by
  induction n using Nat.strongRecOn with
  | ind n ih =>
    by_cases h : n < 10
    · rw [dec_small h]
      refine ⟨by rw [List.all_cons, dig_ofNat h]; rfl, ?_, by simp⟩
      show 0 * 10 + ((UInt8.ofNat (48 + n)).toNat - 48) = n
      rw [ofNat_dig h]; omega
    · obtain ⟨h1, h2, h3⟩ := ih (n / 10) (by omega)
      have hd : n % 10 < 10 := by omega
      rw [dec_big h]
      refine ⟨?_, ?_, by simp⟩
      · rw [List.all_append, h1, List.all_cons, dig_ofNat hd]
        rfl
      · rw [numN_snoc, h2, ofNat_dig hd]; omega

/-- what follows a number: no digit -/
def Stop (r : List UInt8) : Prop := ∀ c, r.head? = some c → isDig c = false

theorem stop_cons {c : UInt8} {r : List UInt8} (h : isDig c = false) : Stop (c :: r) := fun d hd => by
  simp only [List.head?_cons, Option.some.injEq] at hd
  subst hd
  exact h

theorem take_digs : ∀ (l r : List UInt8), l.all isDig = true → Stop r → (l ++ r).takeWhile isDig = l ∧ (l ++ r).dropWhile isDig = r
  | [], r, _, hr => by
    cases r with
    | nil => exact ⟨rfl, rfl⟩
    | cons c r =>
      have h0 := hr c rfl
      constructor
      · rw [List.nil_append, List.takeWhile_cons, if_neg (by rw [h0]; decide)]
      · rw [List.nil_append, List.dropWhile_cons, if_neg (by rw [h0]; decide)]
  | c :: l, r, h, hr => by
    simp only [List.all_cons, Bool.and_eq_true] at h
    obtain ⟨h1, h2⟩ := take_digs l r h.2 hr
    constructor
    · rw [List.cons_append, List.takeWhile_cons, if_pos h.1, h1]
    · rw [List.cons_append, List.dropWhile_cons, if_pos h.1, h2]

theorem dec_split {a b : Nat} {r r' : List UInt8} (h : decDigits a ++ r = decDigits b ++ r') (hr : Stop r) (hr' : Stop r') : a = b ∧ r = r' := by
  obtain ⟨a1, a2, _⟩ := dec_facts a
  obtain ⟨b1, b2, _⟩ := dec_facts b
  obtain ⟨x1, x2⟩ := take_digs _ r a1 hr
  obtain ⟨y1, y2⟩ := take_digs _ r' b1 hr'
  rw [h] at x1 x2
  have e := x1.symm.trans y1
  exact ⟨a2.symm.trans ((congrArg numN e).trans b2), x2.symm.trans y2⟩

theorem dec_head (n : Nat) (r : List UInt8) : ∃ c t, decDigits n ++ r = c :: t ∧ isDig c = true := by
  obtain ⟨h1, _, h3⟩ := dec_facts n
  cases hd : decDigits n with
  | nil => exact absurd hd h3
  | cons c t =>
    rw [hd] at h1
    simp only [List.all_cons, Bool.and_eq_true] at h1
    exact ⟨c, t ++ r, rfl, h1.1⟩

theorem minus_dig : isDig 45 = false := by decide

theorem itoa_split {a b : Int} {r r' : List UInt8} (h : itoa a ++ r = itoa b ++ r') (hr : Stop r) (hr' : Stop r') : a = b ∧ r = r' := by
  unfold itoa at h
  by_cases ha : a < 0
  · rw [if_pos ha] at h
    by_cases hb : b < 0
    · rw [if_pos hb] at h
      simp only [List.cons_append, List.cons.injEq, true_and] at h
      obtain ⟨h1, h2⟩ := dec_split h hr hr'
      exact ⟨by omega, h2⟩
    · rw [if_neg hb] at h
      obtain ⟨c, t, e, hc⟩ := dec_head b.toNat r'
      rw [e] at h
      simp only [List.cons_append, List.cons.injEq] at h
      rw [← h.1, minus_dig] at hc
      cases hc
  · rw [if_neg ha] at h
    by_cases hb : b < 0
    · rw [if_pos hb] at h
      obtain ⟨c, t, e, hc⟩ := dec_head a.toNat r
      rw [e] at h
      simp only [List.cons_append, List.cons.injEq] at h
      rw [h.1, minus_dig] at hc
      cases hc
    · rw [if_neg hb] at h
      obtain ⟨h1, h2⟩ := dec_split h hr hr'
      exact ⟨by omega, h2⟩

/-! bytes as two digits -/

def hexD (n : Nat) : UInt8 := if n < 10 then UInt8.ofNat (48 + n) else UInt8.ofNat (87 + n)
def hexB (c : UInt8) : List UInt8 := [hexD (c.toNat / 16), hexD (c.toNat % 16)]

theorem hexD_inj : ∀ a, a < 16 → ∀ b, b < 16 → hexD a = hexD b → a = b := by decide +kernel
theorem hexD_not : ∀ a, a < 16 → hexD a ≠ 93 := by decide +kernel
theorem hexB_inj {c d : UInt8} {r r' : List UInt8} (h : hexB c ++ r = hexB d ++ r') : c = d ∧ r = r' := by
  unfold hexB at h
  simp only [List.cons_append, List.nil_append, List.cons.injEq] at h
  obtain ⟨h1, h2, h3⟩ := h
  have hc := c.toNat_lt
  have hd := d.toNat_lt
  have e1 := hexD_inj _ (by omega) _ (by omega) h1
  have e2 := hexD_inj _ (by omega) _ (by omega) h2
  exact ⟨UInt8.toNat_inj.1 (by omega), h3⟩

theorem hexs_split : ∀ (l l' : List UInt8) (r r' : List UInt8), l.flatMap hexB ++ 93 :: r = l'.flatMap hexB ++ 93 :: r' → l = l' ∧ r = r'
  | [], [], r, r', h => by
    simp only [List.flatMap_nil, List.nil_append, List.cons.injEq, true_and] at h
    exact ⟨rfl, h⟩
  | [], d :: l', r, r', h => by
    simp only [List.flatMap_nil, List.nil_append, List.flatMap_cons, hexB, List.cons_append, List.cons.injEq] at h
    exact absurd h.1.symm (hexD_not _ (by have := d.toNat_lt; omega))
  | c :: l, [], r, r', h => by
    simp only [List.flatMap_nil, List.nil_append, List.flatMap_cons, hexB, List.cons_append, List.cons.injEq] at h
    exact absurd h.1 (hexD_not _ (by have := c.toNat_lt; omega))
  | c :: l, d :: l', r, r', h => by
    rw [List.flatMap_cons, List.flatMap_cons, List.append_assoc, List.append_assoc] at h
    obtain ⟨e, h2⟩ := hexB_inj h
    obtain ⟨e2, h3⟩ := hexs_split l l' r r' h2
    exact ⟨by rw [e, e2], h3⟩

/-! strings -/

def badB (c : UInt8) : Bool := decide (c.toNat < 32) || decide (126 < c.toNat) || decide (c.toNat = 34) || decide (c.toNat = 92)
def escB (c : UInt8) : List UInt8 := if badB c = true then 92 :: 120 :: hexB c else [c]

theorem esc_plain {c : UInt8} (h : badB c = false) : c ≠ 34 ∧ c ≠ 92 := by
  unfold badB at h
  simp only [Bool.or_eq_false_iff, decide_eq_false_iff_not] at h
  exact ⟨fun e => by rw [e] at h; exact h.1.2 rfl, fun e => by rw [e] at h; exact h.2 rfl⟩

theorem escs_split : ∀ (l l' : List UInt8) (r r' : List UInt8), l.flatMap escB ++ 34 :: r = l'.flatMap escB ++ 34 :: r' → l = l' ∧ r = r'
  | [], [], r, r', h => by
    simp only [List.flatMap_nil, List.nil_append, List.cons.injEq, true_and] at h
    exact ⟨rfl, h⟩
  | [], d :: l', r, r', h => by
    cases hd : badB d with
    | true =>
      simp [escB, hd] at h
    | false =>
      simp [escB, hd] at h
      exact absurd h.1.symm (esc_plain hd).1
  | c :: l, [], r, r', h => by
    cases hc : badB c with
    | true =>
      simp [escB, hc] at h
    | false =>
      simp [escB, hc] at h
      exact absurd h.1 (esc_plain hc).1
  | c :: l, d :: l', r, r', h => by
    rw [List.flatMap_cons, List.flatMap_cons, List.append_assoc, List.append_assoc] at h
    have key : c = d ∧ l.flatMap escB ++ 34 :: r = l'.flatMap escB ++ 34 :: r' := by
      unfold escB at h
      cases hc : badB c with
      | true =>
        cases hd : badB d with
        | true =>
          rw [hc, hd, if_pos rfl, if_pos rfl] at h
          simp only [List.cons_append, List.cons.injEq, true_and] at h
          exact hexB_inj h
        | false =>
          rw [hc, hd, if_pos rfl, if_neg (by simp)] at h
          simp only [List.cons_append, List.nil_append, List.cons.injEq] at h
          exact absurd h.1.symm (esc_plain hd).2
      | false =>
        cases hd : badB d with
        | true =>
          rw [hc, hd, if_neg (by simp), if_pos rfl] at h
          simp only [List.cons_append, List.nil_append, List.cons.injEq] at h
          exact absurd h.1 (esc_plain hc).2
        | false =>
          rw [hc, hd, if_neg (by simp), if_neg (by simp)] at h
          simp only [List.cons_append, List.nil_append, List.cons.injEq] at h
          exact h
    obtain ⟨e, h2⟩ := key
    obtain ⟨e2, h3⟩ := escs_split l l' r r' h2
    exact ⟨by rw [e, e2], h3⟩

/-! arguments -/

def txtG (a : Ag) : List UInt8 :=
  if a.kd = 1 then itoa a.nn else if a.kd = 2 then itoa a.nn ++ [117] else if a.kd = 3 then itoa a.nn ++ [102] else
  if a.kd = 5 then 35 :: itoa a.nn else if a.kd = 6 then 43 :: itoa a.nn else
  if a.kd = 4 then 34 :: ((sl a.ss).flatMap escB ++ [34]) else if a.kd = 7 then 91 :: (a.bb.flatMap hexB ++ [93]) else [63]

/-- arguments as they follow one another in a text -/
def txtL : List Ag → List UInt8
  | [] => []
  | [a] => txtG a
  | a :: b :: l => txtG a ++ (44 :: 32 :: txtL (b :: l))
def fmtT (m : Ms) : List UInt8 := itoa m.ob ++ (46 :: (itoa m.oc ++ (40 :: (txtL m.ags ++ [41]))))

theorem ag_same {a b : Ag} (h1 : a.kd = b.kd) (h2 : a.nn = b.nn) (h3 : a.ss = b.ss) (h4 : a.bb = b.bb) : a = b := by
  cases a; cases b; simp_all

theorem txt_split {a b : Ag} {k : Nat} (hk : 1 ≤ k ∧ k ≤ 7) (ha : tidyB a k = true) (hb : tidyB b k = true) {r r' : List UInt8} (h : txtG a ++ r = txtG b ++ r') (hr : Stop r) (hr' : Stop r') : a = b ∧ r = r' := by
  obtain ⟨a1, a2, a3, a4⟩ := tidy_out ha
  obtain ⟨b1, b2, b3, b4⟩ := tidy_out hb
  have d117 : isDig 117 = false := by decide
  have d102 : isDig 102 = false := by decide
  unfold txtG at h
  rw [a1, b1] at h
  have e : k = 1 ∨ k = 2 ∨ k = 3 ∨ k = 4 ∨ k = 5 ∨ k = 6 ∨ k = 7 := by omega
  have fin : k ≠ 4 → k ≠ 7 → a.nn = b.nn → a = b := fun h4 h7 hn => ag_same (a1.trans b1.symm) hn ((a2 h4).trans (b2 h4).symm) ((a3 h7).trans (b3 h7).symm)
  rcases e with rfl | rfl | rfl | rfl | rfl | rfl | rfl
  · simp at h
    obtain ⟨h1, h2⟩ := itoa_split h hr hr'
    exact ⟨fin (by omega) (by omega) h1, h2⟩
  · simp at h
    obtain ⟨h1, h2⟩ := itoa_split h (stop_cons d117) (stop_cons d117)
    exact ⟨fin (by omega) (by omega) h1, by simpa using h2⟩
  · simp at h
    obtain ⟨h1, h2⟩ := itoa_split h (stop_cons d102) (stop_cons d102)
    exact ⟨fin (by omega) (by omega) h1, by simpa using h2⟩
  · simp at h
    obtain ⟨h1, h2⟩ := escs_split _ _ _ _ h
    exact ⟨ag_same (a1.trans b1.symm) ((a4 (.inl rfl)).trans (b4 (.inl rfl)).symm) (sl_inj h1) ((a3 (by omega)).trans (b3 (by omega)).symm), h2⟩
  · simp at h
    obtain ⟨h1, h2⟩ := itoa_split h hr hr'
    exact ⟨fin (by omega) (by omega) h1, h2⟩
  · simp at h
    obtain ⟨h1, h2⟩ := itoa_split h hr hr'
    exact ⟨fin (by omega) (by omega) h1, h2⟩
  · simp at h
    obtain ⟨h1, h2⟩ := hexs_split _ _ _ _ h
    exact ⟨ag_same (a1.trans b1.symm) ((a4 (.inr rfl)).trans (b4 (.inr rfl)).symm) ((a2 (by omega)).trans (b2 (by omega)).symm) h1, h2⟩

theorem txtL_inj : ∀ (l m : List Ag) (ks : List Nat), Good l ks → Good m ks → ∀ (r r' : List UInt8), txtL l ++ 41 :: r = txtL m ++ 41 :: r' → l = m ∧ r = r'
  | [], [], _, _, _, r, r', h => by
    simp only [txtL, List.nil_append, List.cons.injEq, true_and] at h
    exact ⟨rfl, h⟩
  | [], b :: m, ks, hl, hm, _, _, _ => by
    have h1 := hl.1
    have h2 := hm.1
    simp at h1 h2
    omega
  | a :: l, [], ks, hl, hm, _, _, _ => by
    have h1 := hl.1
    have h2 := hm.1
    simp at h1 h2
    omega
  | a :: l, b :: m, [], hl, _, _, _, _ => by
    have h1 := hl.1
    simp at h1
  | a :: l, b :: m, k :: ks, hl, hm, r, r', h => by
    obtain ⟨⟨hk, l1, _⟩, gl⟩ := hl.cons
    obtain ⟨⟨_, m1, _⟩, gm⟩ := hm.cons
    have d41 : isDig 41 = false := by decide
    have d44 : isDig 44 = false := by decide
    have hlen : l.length = m.length := by rw [gl.1, gm.1]
    cases l with
    | nil =>
      cases m with
      | nil =>
        simp only [txtL] at h
        obtain ⟨h1, h2⟩ := txt_split hk l1 m1 h (stop_cons d41) (stop_cons d41)
        simp only [List.cons.injEq, true_and] at h2
        exact ⟨by rw [h1], h2⟩
      | cons c m => simp at hlen
    | cons c l =>
      cases m with
      | nil => simp at hlen
      | cons d m =>
        simp only [txtL, List.append_assoc, List.cons_append] at h
        obtain ⟨h1, h2⟩ := txt_split hk l1 m1 h (stop_cons d44) (stop_cons d44)
        simp only [List.cons.injEq, true_and] at h2
        obtain ⟨h3, h4⟩ := txtL_inj (c :: l) (d :: m) ks gl gm r r' h2
        exact ⟨by rw [h1, h3], h4⟩

theorem fmt_inj {m n : Ms} {ks : List Nat} (hm : Good m.ags ks) (hn : Good n.ags ks) (h : fmtT m = fmtT n) : m = n := by
  unfold fmtT at h
  have d46 : isDig 46 = false := by decide
  have d40 : isDig 40 = false := by decide
  obtain ⟨h1, h2⟩ := itoa_split h (stop_cons d46) (stop_cons d46)
  simp only [List.cons.injEq, true_and] at h2
  obtain ⟨h3, h4⟩ := itoa_split h2 (stop_cons d40) (stop_cons d40)
  simp only [List.cons.injEq, true_and] at h4
  obtain ⟨h5, _⟩ := txtL_inj _ _ ks hm hn [] [] h4
  have h6 : m.ob = n.ob := by omega
  cases m
  cases n
  simp only [Ms.mk.injEq]
  exact ⟨h6, h3, h5⟩

end Go.Proofs.YtmpkjjmgfakomaaDoor
