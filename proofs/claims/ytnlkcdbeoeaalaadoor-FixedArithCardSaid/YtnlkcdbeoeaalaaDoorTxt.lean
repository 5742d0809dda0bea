/-
  The texts of numbers, over lists of bytes: digits, the form of a number, both ways between numbers and texts. Nothing of the program.
-/
import Derived.Test.YtnlkcdbeoeaalaaDoorPure
import Derived.Lib.ItoaNum
import Derived.Lib.TrimByte
import Derived.Lib.Repeat
namespace Go.Proofs.YtnlkcdbeoeaalaaDoor
open Go.Lib (decDigits trimRightB)

def isDig (c : UInt8) : Bool := decide (48 ≤ c.toNat) && decide (c.toNat ≤ 57)
def digitsB (l : List UInt8) : Bool := l.all isDig && !l.isEmpty
def wholeB (l : List UInt8) : Bool := digitsB l && (l == [48] || l.head? != some 48)
def fracB (l : List UInt8) : Bool := digitsB l && decide (l.length ≤ 8) && l.getLast? != some 48
def numN (l : List UInt8) : Nat := l.foldl (fun n c => n * 10 + (c.toNat - 48)) 0
def padL (l : List UInt8) : List UInt8 := l ++ List.replicate (8 - l.length) 48

def bodyP (neg : Bool) (w r : List UInt8) (one : Bool) : Int × Int :=
  if wholeB w && (r.isEmpty || fracB r.tail) && !(neg && one) then
    (if numN (padL r.tail) % 390625 = 0 then fitP neg (numN w * 256 + numN (padL r.tail) / 390625) else (0, 3))
  else (0, 3)

def restP (neg : Bool) (t : List UInt8) : Int × Int := bodyP neg (t.takeWhile (· != 46)) (t.dropWhile (· != 46)) (t == [48])

/-- the number with the text s, or an error -/
def parseP (s : List UInt8) : Int × Int := if s.head? = some 45 then restP true s.tail else restP false s

/-- the lowest k decimal digits -/
def digs : Nat → Nat → List UInt8
  | 0, _ => []
  | k + 1, x => digs k (x / 10) ++ [UInt8.ofNat (48 + x % 10)]

def fracP (k : Nat) : List UInt8 := if k = 0 then [] else 46 :: trimRightB (digs 8 (k * 390625)) 48

/-- the text of a number -/
def fmtP (f : Int) : List UInt8 := (if f < 0 then [45] else []) ++ (decDigits (f.natAbs / 256) ++ fracP (f.natAbs % 256))

theorem dig_iff {c : UInt8} : isDig c = true ↔ 48 ≤ c.toNat ∧ c.toNat ≤ 57 := by simp [isDig]

theorem ofNat_dig {n : Nat} (h : n < 10) : (UInt8.ofNat (48 + n)).toNat = 48 + n := by
  rw [UInt8.toNat_ofNat']; omega

theorem dig_ofNat {n : Nat} (h : n < 10) : isDig (UInt8.ofNat (48 + n)) = true := by
  rw [dig_iff, ofNat_dig h]; omega

theorem of_dig {c : UInt8} (h : isDig c = true) : UInt8.ofNat (48 + (c.toNat - 48)) = c := by
  rw [dig_iff] at h
  rw [show 48 + (c.toNat - 48) = c.toNat by omega]
  exact UInt8.ofNat_toNat

theorem numN_snoc (l : List UInt8) (c : UInt8) : numN (l ++ [c]) = numN l * 10 + (c.toNat - 48) := by simp [numN, List.foldl_append]

theorem all_snoc (l : List UInt8) (c : UInt8) : (l ++ [c]).all isDig = (l.all isDig && isDig c) := by simp

theorem snoc_ind {α : Type} {P : List α → Prop} (h0 : P []) (h1 : ∀ l c, P l → P (l ++ [c])) (l : List α) : P l := by
  have h : ∀ m : List α, P m.reverse := fun m => by
    induction m with
    | nil => exact h0
    | cons c m ih => rw [List.reverse_cons]; exact h1 _ _ ih
  have := h l.reverse
  rwa [List.reverse_reverse] at this

theorem numN_lt (l : List UInt8) : l.all isDig = true → numN l < 10 ^ l.length := by
  induction l using snoc_ind with
  | h0 => intro _; simp [numN]
  | h1 l c ih =>
    intro h
    rw [all_snoc, Bool.and_eq_true] at h
    have h1 := ih h.1
    have h2 := dig_iff.1 h.2
    rw [numN_snoc, List.length_append, List.length_singleton, Nat.pow_succ]
    omega

theorem digs_len : ∀ (k x : Nat), (digs k x).length = k
  | 0, _ => rfl
  | k + 1, x => by rw [digs, List.length_append, digs_len k]; rfl

/-- the digits of a list's number are the list -/
theorem digs_num (l : List UInt8) : l.all isDig = true → digs l.length (numN l) = l := by
  induction l using snoc_ind with
  | h0 => intro _; rfl
  | h1 l c ih =>
    intro h
    rw [all_snoc, Bool.and_eq_true] at h
    have h2 := dig_iff.1 h.2
    rw [numN_snoc, List.length_append, List.length_singleton, digs]
    rw [show (numN l * 10 + (c.toNat - 48)) / 10 = numN l by omega, show (numN l * 10 + (c.toNat - 48)) % 10 = c.toNat - 48 by omega, ih h.1, of_dig h.2]

theorem dec_small {n : Nat} (h : n < 10) : decDigits n = [UInt8.ofNat (48 + n)] := Go.Lib.decDigits_one h
theorem dec_big {n : Nat} (h : ¬ n < 10) : decDigits n = decDigits (n / 10) ++ [UInt8.ofNat (48 + n % 10)] := by rw [decDigits, dif_neg h]

/-- a number's digits: they are digits, the first of them is 0 for 0 alone, and they give the number -/
theorem dec_facts (n : Nat) : (decDigits n).all isDig = true ∧ numN (decDigits n) = n ∧ decDigits n ≠ [] ∧ (n ≠ 0 → ∃ c, (decDigits n).head? = some c ∧ c ≠ 48) := by
  induction n using Nat.strongRecOn with
  | ind n ih =>
    by_cases h : n < 10
    · rw [dec_small h]
      refine ⟨by rw [List.all_cons, dig_ofNat h]; rfl, ?_, by simp, fun hn => ⟨_, rfl, fun e => ?_⟩⟩
      · show 0 * 10 + ((UInt8.ofNat (48 + n)).toNat - 48) = n
        rw [ofNat_dig h]; omega
      · have := congrArg UInt8.toNat e
        rw [ofNat_dig h] at this
        exact hn (by simpa using this)
    · obtain ⟨h1, h2, h3, h4⟩ := ih (n / 10) (by omega)
      have hd : n % 10 < 10 := by omega
      rw [dec_big h]
      refine ⟨?_, ?_, by simp, fun _ => ?_⟩
      · rw [all_snoc, h1, dig_ofNat hd]; rfl
      · rw [numN_snoc, h2, ofNat_dig hd]; omega
      · obtain ⟨c, hc, hne⟩ := h4 (by omega)
        refine ⟨c, ?_, hne⟩
        rw [List.head?_append, hc]; rfl

theorem dec_zero : decDigits 0 = [48] := by rw [dec_small (by decide)]; rfl

theorem dec_whole (n : Nat) : wholeB (decDigits n) = true := by
  obtain ⟨h1, h2, h3, h4⟩ := dec_facts n
  unfold wholeB digitsB
  rw [h1]
  by_cases hn : n = 0
  · subst hn; rw [dec_zero]; rfl
  · obtain ⟨c, hc, hne⟩ := h4 hn
    rw [hc]
    have : (decDigits n).isEmpty = false := by
      cases e : decDigits n with
      | nil => exact absurd e h3
      | cons _ _ => rfl
    rw [this]
    simp [hne]

theorem num_pos (l : List UInt8) : l.all isDig = true → (∃ c, l.head? = some c ∧ c ≠ 48) → 1 ≤ numN l := by
  induction l using snoc_ind with
  | h0 => rintro _ ⟨c, hc, _⟩; cases hc
  | h1 l c ih =>
    intro h hh
    rw [all_snoc, Bool.and_eq_true] at h
    have h2 := dig_iff.1 h.2
    rw [numN_snoc]
    cases l with
    | nil =>
      obtain ⟨d, hd, hne⟩ := hh
      have e : c = d := by simpa using hd
      subst e
      have : c.toNat ≠ 48 := fun e => hne (UInt8.toNat_inj.1 (by simpa using e))
      omega
    | cons b l =>
      have := ih h.1 (by simpa using hh)
      omega

/-- a whole part is the digits of its number -/
theorem dec_num (l : List UInt8) : wholeB l = true → decDigits (numN l) = l := by
  induction l using snoc_ind with
  | h0 => intro h; exact absurd h (by decide)
  | h1 l c ih =>
    intro h
    unfold wholeB digitsB at h
    rw [Bool.and_eq_true, Bool.and_eq_true, all_snoc, Bool.and_eq_true] at h
    obtain ⟨⟨⟨hl, hc⟩, _⟩, hw⟩ := h
    have h2 := dig_iff.1 hc
    rw [numN_snoc]
    cases l with
    | nil =>
      show decDigits (0 * 10 + (c.toNat - 48)) = [c]
      rw [dec_small (by omega), show 0 * 10 + (c.toNat - 48) = c.toNat - 48 by omega, of_dig hc]
    | cons b l =>
      have hb : b ≠ 48 := by
        rintro rfl
        simp at hw
      have hwl : wholeB (b :: l) = true := by
        unfold wholeB digitsB
        rw [hl]
        simp [hb]
      have hp : 1 ≤ numN (b :: l) := num_pos _ hl ⟨b, rfl, hb⟩
      rw [dec_big (by omega), show (numN (b :: l) * 10 + (c.toNat - 48)) / 10 = numN (b :: l) by omega, show (numN (b :: l) * 10 + (c.toNat - 48)) % 10 = c.toNat - 48 by omega, ih hwl, of_dig hc]

/-- the digits behind a one -/
theorem dec_one : ∀ (k x : Nat), x < 10 ^ k → decDigits (10 ^ k + x) = 49 :: digs k x
  | 0, x, h => by
    obtain rfl : x = 0 := by simpa using h
    rw [Nat.pow_zero, dec_small (by decide)]; rfl
  | k + 1, x, h => by
    have hp : 0 < 10 ^ k := Nat.pow_pos (by decide)
    rw [Nat.pow_succ] at h ⊢
    rw [dec_big (by omega), show (10 ^ k * 10 + x) / 10 = 10 ^ k + x / 10 by omega, show (10 ^ k * 10 + x) % 10 = x % 10 by omega, dec_one k (x / 10) (by omega), digs]
    rfl

/-- the digits of a number with k digits -/
theorem dec_digs : ∀ (k n : Nat), 1 ≤ k → n < 10 ^ k → (k = 1 ∨ 10 ^ (k - 1) ≤ n) → digs k n = decDigits n
  | 1, n, _, h, _ => by
    have h : n < 10 := by simpa using h
    rw [dec_small h, digs, digs, List.nil_append, Nat.mod_eq_of_lt h]
  | k + 2, n, _, h, h2 => by
    have h3 : 10 ^ (k + 1) ≤ n := by
      rcases h2 with h2 | h2
      · omega
      · exact h2
    have hp : 0 < 10 ^ k := Nat.pow_pos (by decide)
    rw [Nat.pow_succ] at h
    have h4 : 10 ^ k * 10 ≤ n := by rwa [Nat.pow_succ] at h3
    rw [dec_big (by omega), digs, dec_digs (k + 1) (n / 10) (by omega) (by omega) (.inr (by show 10 ^ k ≤ n / 10; omega))]

/-- one digit more in front -/
theorem digs_front : ∀ (k x : Nat), digs (k + 1) x = UInt8.ofNat (48 + x / 10 ^ k % 10) :: digs k x
  | 0, x => by simp [digs]
  | k + 1, x => by
    rw [digs, digs_front k (x / 10), digs, Nat.div_div_eq_div_mul, Nat.pow_succ, Nat.mul_comm 10]
    rfl

theorem trim_cons (c : UInt8) (l : List UInt8) : trimRightB (c :: l) 48 = if (trimRightB l 48).isEmpty then (if c = 48 then [] else [c]) else c :: trimRightB l 48 := by
  unfold trimRightB
  rw [List.reverse_cons, List.dropWhile_append, List.isEmpty_reverse]
  split
  · by_cases h : c = 48
    · subst h; rfl
    · have : (c == 48) = false := by simpa using h
      simp [this, h]
  · simp

theorem trim_none {l : List UInt8} (h : l.getLast? ≠ some 48) : trimRightB l 48 = l := by
  rcases List.eq_nil_or_concat l with rfl | ⟨l', b, rfl⟩
  · rfl
  · have hb : b ≠ 48 := by
      rintro rfl
      simp at h
    have : (b == 48) = false := by simpa using hb
    unfold trimRightB
    rw [List.concat_eq_append, List.reverse_append, List.reverse_singleton, List.singleton_append, List.dropWhile_cons, this]
    simp

theorem trim_zeros (l : List UInt8) : ∀ k, trimRightB (l ++ List.replicate k 48) 48 = trimRightB l 48
  | 0 => by simp
  | k + 1 => by
    rw [List.replicate_succ', ← List.append_assoc]
    have : trimRightB (l ++ List.replicate k 48 ++ [48]) 48 = trimRightB (l ++ List.replicate k 48) 48 := by
      unfold trimRightB
      rw [List.reverse_append]
      rfl
    rw [this, trim_zeros l k]

/-- every fraction: its digits have the form of a fraction and give it back -/
def fracOk (k : Nat) : Bool := fracB (trimRightB (digs 8 (k * 390625)) 48) && numN (padL (trimRightB (digs 8 (k * 390625)) 48)) == k * 390625

theorem frac_all : (List.range 255).all (fun k => fracOk (k + 1)) = true := by decide +kernel

theorem frac_ok {k : Nat} (h1 : k ≠ 0) (h2 : k < 256) : fracB (trimRightB (digs 8 (k * 390625)) 48) = true ∧ numN (padL (trimRightB (digs 8 (k * 390625)) 48)) = k * 390625 := by
  have h := List.all_eq_true.1 frac_all (k - 1) (List.mem_range.2 (by omega))
  rw [show k - 1 + 1 = k by omega] at h
  unfold fracOk at h
  rw [Bool.and_eq_true] at h
  exact ⟨h.1, by simpa using h.2⟩

theorem pad_nil : numN (padL []) = 0 := by decide +kernel

theorem dig_ne_point {c : UInt8} (h : isDig c = true) : (c != 46) = true := by
  rw [dig_iff] at h
  rw [bne_iff_ne]
  rintro rfl
  exact absurd h.1 (by decide)

/-- the split at the point -/
theorem split_at (w r : List UInt8) (hw : w.all isDig = true) (hr : r = [] ∨ r.head? = some 46) : (w ++ r).takeWhile (· != 46) = w ∧ (w ++ r).dropWhile (· != 46) = r := by
  induction w with
  | nil =>
    rcases hr with rfl | hr
    · exact ⟨rfl, rfl⟩
    · cases r with
      | nil => cases hr
      | cons c r =>
        have e : c = 46 := by simpa using hr
        subst e
        exact ⟨rfl, rfl⟩
  | cons c w ih =>
    simp only [List.all_cons, Bool.and_eq_true] at hw
    obtain ⟨i1, i2⟩ := ih hw.2
    rw [List.cons_append, List.takeWhile_cons, List.dropWhile_cons, dig_ne_point hw.1, if_pos rfl, if_pos rfl, i1, i2]
    exact ⟨rfl, rfl⟩

theorem frac_head (k : Nat) : fracP k = [] ∨ (fracP k).head? = some 46 := by
  unfold fracP
  split
  · exact .inl rfl
  · exact .inr rfl

theorem body_fmt (neg : Bool) (n : Nat) (hn : neg = true → n ≠ 0) : restP neg (decDigits (n / 256) ++ fracP (n % 256)) = fitP neg n := by
  obtain ⟨h1, h2, h3, h4⟩ := dec_facts (n / 256)
  obtain ⟨e1, e2⟩ := split_at (decDigits (n / 256)) (fracP (n % 256)) h1 (frac_head _)
  unfold restP
  rw [e1, e2]
  unfold bodyP
  rw [dec_whole, h2]
  by_cases hk : n % 256 = 0
  · have hf : fracP (n % 256) = [] := if_pos hk
    rw [hf]
    have hz : (!(neg && (decDigits (n / 256) ++ [] == [48]))) = true := by
      cases neg
      · rfl
      · have : n / 256 ≠ 0 := by have := hn rfl; omega
        obtain ⟨c, hc, hne⟩ := h4 this
        simp only [List.append_nil, Bool.true_and, Bool.not_eq_true', beq_eq_false_iff_ne, ne_eq]
        intro e
        rw [e] at hc
        exact hne (by simpa using hc.symm)
    rw [hz]
    have hp : numN (padL ([] : List UInt8).tail) = 0 := pad_nil
    rw [if_pos (by rfl), hp, if_pos (by rfl)]
    congr 1
    omega
  · obtain ⟨f1, f2⟩ := frac_ok hk (Nat.mod_lt n (by decide))
    have hf : fracP (n % 256) = 46 :: trimRightB (digs 8 (n % 256 * 390625)) 48 := if_neg hk
    rw [hf]
    have hz : (decDigits (n / 256) ++ 46 :: trimRightB (digs 8 (n % 256 * 390625)) 48 == [48]) = false := by
      rw [beq_eq_false_iff_ne]
      intro e
      cases hd : decDigits (n / 256) with
      | nil => exact h3 hd
      | cons c l => rw [hd] at e; simp at e
    rw [hz, List.tail_cons, f1, f2, if_pos (by cases neg <;> rfl), if_pos (by omega)]
    congr 1
    omega

theorem fit_num (f : Int) (h1 : -2147483648 ≤ f) (h2 : f ≤ 2147483647) : fitP (decide (f < 0)) f.natAbs = (f, 0) := fit_self f h1 h2

/-- a text read back -/
theorem parse_fmt (f : Int) (h1 : -2147483648 ≤ f) (h2 : f ≤ 2147483647) : parseP (fmtP f) = (f, 0) := by
  rw [← fit_self f h1 h2]
  unfold parseP fmtP
  by_cases h : f < 0
  · rw [if_pos h, List.singleton_append, List.head?_cons, if_pos rfl, List.tail_cons, body_fmt _ _ (fun _ => by omega), decide_eq_true h]
  · rw [if_neg h, List.nil_append, if_neg, body_fmt _ _ (fun e => by cases e), decide_eq_false h]
    intro e
    obtain ⟨g1, _, g3, _⟩ := dec_facts (f.natAbs / 256)
    cases hd : decDigits (f.natAbs / 256) with
    | nil => exact g3 hd
    | cons c l =>
      rw [hd] at e g1
      have ec : c = 45 := by simpa using e
      subst ec
      simp [isDig] at g1

theorem whole_digits {l : List UInt8} (h : wholeB l = true) : l.all isDig = true := by
  unfold wholeB digitsB at h
  rw [Bool.and_eq_true, Bool.and_eq_true] at h
  exact h.1.1

theorem frac_facts {l : List UInt8} (h : fracB l = true) : l.all isDig = true ∧ l ≠ [] ∧ l.length ≤ 8 ∧ l.getLast? ≠ some 48 := by
  unfold fracB digitsB at h
  simp only [Bool.and_eq_true, decide_eq_true_eq, bne_iff_ne, Bool.not_eq_true'] at h
  exact ⟨h.1.1.1, (by intro e; have h3 := h.1.1.2; rw [e] at h3; cases h3), h.1.2, h.2⟩

theorem pad_facts {l : List UInt8} (h : l.all isDig = true) (hl : l.length ≤ 8) : (padL l).all isDig = true ∧ (padL l).length = 8 := by
  unfold padL
  constructor
  · rw [List.all_append, h, Bool.true_and, List.all_eq_true]
    intro c hc
    rw [List.eq_of_mem_replicate hc]
    rfl
  · rw [List.length_append, List.length_replicate]; omega

theorem pad_lt {l : List UInt8} (h : l.all isDig = true) (hl : l.length ≤ 8) : numN (padL l) < 100000000 := by
  obtain ⟨h1, h2⟩ := pad_facts h hl
  have := numN_lt _ h1
  rw [h2] at this
  exact this

/-- a number's text, from what was read -/
theorem body_back (neg : Bool) (t : List UInt8) (v : Int) (h : restP neg t = (v, 0)) : fmtP v = (if neg then [45] else []) ++ t := by
  unfold restP bodyP at h
  split at h
  · rename_i hc
    split at h
    · rename_i hm
      simp only [Bool.and_eq_true, Bool.or_eq_true] at hc
      obtain ⟨⟨hw, hr⟩, hz⟩ := hc
      have hwr := List.takeWhile_append_dropWhile (p := (· != 46)) (l := t)
      obtain ⟨w, hwe⟩ : ∃ w, t.takeWhile (· != 46) = w := ⟨_, rfl⟩
      obtain ⟨r, hre⟩ : ∃ r, t.dropWhile (· != 46) = r := ⟨_, rfl⟩
      rw [hwe] at hw h hwr
      rw [hre] at hr hm h hwr
      have hr46 : r = [] ∨ r.head? = some 46 := by
        rw [← hre]
        cases e : t.dropWhile (· != 46) with
        | nil => exact .inl rfl
        | cons c l =>
          right
          have := List.head_dropWhile_not (fun x : UInt8 => x != 46) (show t.dropWhile (· != 46) ≠ [] by rw [e]; simp)
          simp only [e, List.head_cons, bne_eq_false_iff_eq] at this
          rw [this]; rfl
      have hx : numN (padL r.tail) < 100000000 := by
        rcases hr with hr | hr
        · have : r = [] := by simpa using hr
          rw [this]
          show numN (padL []) < _
          rw [pad_nil]; decide
        · obtain ⟨f1, _, f3, _⟩ := frac_facts hr
          exact pad_lt f1 f3
      have hN : (fitP neg (numN w * 256 + numN (padL r.tail) / 390625)).2 = 0 := by rw [h]
      obtain ⟨hv, _, _⟩ := fit_ok hN
      rw [h] at hv
      have hk : numN (padL r.tail) / 390625 < 256 := by omega
      have hX : numN (padL r.tail) / 390625 * 390625 = numN (padL r.tail) := by omega
      obtain ⟨k, hke⟩ : ∃ k, numN (padL r.tail) / 390625 = k := ⟨_, rfl⟩
      rw [hke] at hv hk hX
      have hfr : fracP k = r := by
        unfold fracP
        rcases hr46 with rfl | hr46
        · have : k = 0 := by rw [← hke]; show numN (padL []) / 390625 = 0; rw [pad_nil]
          rw [if_pos this]
        · cases r with
          | nil => cases hr46
          | cons c T =>
            have e46 : c = 46 := by simpa using hr46
            subst e46
            have hr2 : fracB T = true := by simpa using hr
            obtain ⟨f1, f2, f3, f4⟩ := frac_facts hr2
            obtain ⟨p1, p2⟩ := pad_facts f1 f3
            rw [List.tail_cons] at hX
            have hd : digs 8 (k * 390625) = padL T := by
              rw [hX, ← p2]
              exact digs_num _ p1
            have ht : trimRightB (padL T) 48 = T := by
              unfold padL
              rw [trim_zeros, trim_none f4]
            have hk0 : k ≠ 0 := by
              rintro rfl
              rw [Nat.zero_mul] at hd
              have h0 : trimRightB (digs 8 0) 48 = [] := by decide +kernel
              rw [hd, ht] at h0
              exact f2 h0
            rw [if_neg hk0, hd, ht]
      have hdw := dec_num w hw
      unfold fmtP
      cases neg
      · have hv' : v = ((numN w * 256 + k : Nat) : Int) := hv
        have hna : v.natAbs = numN w * 256 + k := by omega
        rw [if_neg (by omega), hna, show (numN w * 256 + k) / 256 = numN w by omega, show (numN w * 256 + k) % 256 = k by omega, hdw, hfr, hwr]
        rfl
      · have hv' : v = -((numN w * 256 + k : Nat) : Int) := hv
        have hna : v.natAbs = numN w * 256 + k := by omega
        have hpos : numN w * 256 + k ≠ 0 := by
          intro e0
          have e1 : numN w = 0 := by omega
          have e2 : k = 0 := by omega
          rw [e1, dec_zero] at hdw
          rw [e2] at hfr
          have e3 : r = [] := hfr.symm
          rw [← hdw, e3] at hwr
          rw [← hwr] at hz
          exact absurd hz (by decide)
        rw [if_pos (by omega), hna, show (numN w * 256 + k) / 256 = numN w by omega, show (numN w * 256 + k) % 256 = k by omega, hdw, hfr, hwr]
        rfl
    · cases h
  · cases h

/-- a number written back -/
theorem fmt_parse (s : List UInt8) (v : Int) (h : parseP s = (v, 0)) : fmtP v = s := by
  unfold parseP at h
  split at h
  · rename_i hs
    rw [body_back true _ v h]
    cases s with
    | nil => cases hs
    | cons c s =>
      have e : c = 45 := by simpa using hs
      subst e
      rfl
  · rw [body_back false _ v h]
    rfl

end Go.Proofs.YtnlkcdbeoeaalaaDoor
