/-
  What package message computes, on arguments as numbers, strings and lists of bytes: checks, encodings, decoding; what was encoded is decoded. No program is named here.
-/
import Derived.Test.YtmpkjjmgfakomaaDoorWth
import Derived.Test.YtmpkjjmgfakomaaDoorIfz
namespace Go.Proofs.YtmpkjjmgfakomaaDoor
open Go.RowKit Wire

/-- an argument: its kind, its number, its string, its bytes -/
structure Ag where
  kd : Int
  nn : Int
  ss : ByteArray
  bb : List UInt8

/-- a message: its object, its opcode, its arguments -/
structure Ms where
  ob : Nat
  oc : Int
  ags : List Ag

def sl (s : ByteArray) : List UInt8 := s.data.toList
theorem sl_len (s : ByteArray) : (sl s).length = s.size := (sizeL_eq s).symm
theorem sl_back (s : ByteArray) : (⟨(sl s).toArray⟩ : ByteArray) = s := by
  obtain ⟨⟨l⟩⟩ := s
  rfl
theorem sl_inj {s t : ByteArray} (h : sl s = sl t) : s = t := by rw [← sl_back s, ← sl_back t, h]

/-- an argument of kind k that has no field that the kind does not use -/
def tidyB (a : Ag) (k : Nat) : Bool :=
  decide (a.kd = (k : Int)) && (decide (k = 4) || decide (a.ss.size = 0)) && (decide (k = 7) || decide (a.bb.length = 0)) && (!(decide (k = 4) || decide (k = 7)) || decide (a.nn = 0))
def rngB (a : Ag) : Bool :=
  if a.kd = 1 ∨ a.kd = 3 then decide (-2147483648 ≤ a.nn) && decide (a.nn < 2147483648) else
  if a.kd = 2 ∨ a.kd = 5 then decide (0 ≤ a.nn) && decide (a.nn < 4294967296) else
  if a.kd = 6 then decide (1 ≤ a.nn) && decide (a.nn < 4294967296) else true
def zerB (a : Ag) : Bool := decide ((0 : UInt8) ∈ sl a.ss)
def bigB (a : Ag) : Bool := decide (1024 < a.ss.size) || decide (1024 < a.bb.length)

def tidyAll : List Ag → List Nat → Bool
  | [], _ => true
  | _, [] => true
  | a :: l, k :: ks => tidyB a k && tidyAll l ks

/-- the first error of a message, apart from its length -/
def chkT (ks : Option (List Nat)) (m : Ms) : Int :=
  match ks with
  | none => 2
  | some ks =>
    if m.ags.length ≠ ks.length then 2 else
    if tidyAll m.ags ks = false then 2 else
    if m.oc < 0 ∨ 65535 < m.oc then 6 else
    if m.ags.all rngB = false then 6 else
    if m.ags.any zerB = true then 3 else
    if m.ags.any bigB = true then 5 else 0

/-- the kinds of a signature, if it is one -/
def sigK (s : ByteArray) : Option (List Nat) := if sigT s = true then some (kdsT (sl s)) else none

/-- the encoding of an argument -/
def encG (a : Ag) : List UInt8 :=
  if a.kd = 4 then encA (sl a.ss) else if a.kd = 7 then encA a.bb else enc4 (a.nn % 4294967296).toNat
def bodT (l : List Ag) : List UInt8 := l.flatMap encG
/-- the second number of a header -/
def headT (n : Nat) (oc : Int) : Nat := (((n : Int) + 8) * 65536 + oc).toNat
def encT (ks : Option (List Nat)) (m : Ms) : List UInt8 × Int :=
  if chkT ks m ≠ 0 then ([], chkT ks m) else
  if 4088 < (bodT m.ags).length then ([], 5) else (enc4 m.ob ++ enc4 (headT (bodT m.ags).length m.oc) ++ bodT m.ags, 0)

/-- an argument of kind k read -/
def readG (s : St) (k : Nat) : St × Ag :=
  if k = 1 ∨ k = 3 then ((numS s).1, ⟨k, wrap32 ((numS s).2 : Int), ⟨#[]⟩, []⟩) else
  if k = 4 then ((strS s 1024).1, ⟨k, 0, ⟨(strS s 1024).2.toArray⟩, []⟩) else
  if k = 7 then ((countS s 1024).1, ⟨k, 0, ⟨#[]⟩, (countS s 1024).2⟩) else ((numS s).1, ⟨k, (numS s).2, ⟨#[]⟩, []⟩)
/-- the arguments read, behind those that have been read: them, the error -/
def decF (s : St) (acc : List Ag) : List Nat → List Ag × Int
  | [] => if endS s ≠ 0 then ([], endS s) else (acc, 0)
  | k :: ks =>
    if (readG s k).1.2 ≠ 0 then ([], (readG s k).1.2) else
    if rngB (readG s k).2 = false then ([], 6) else decF (readG s k).1 (acc ++ [(readG s k).2]) ks
def decT (ks : Option (List Nat)) (ob : Nat) (oc : Int) (body : List UInt8) : Ms × Int :=
  match ks with
  | none => (⟨0, 0, []⟩, 2)
  | some ks =>
    if oc < 0 ∨ 65535 < oc then (⟨0, 0, []⟩, 6) else
    if 4088 < body.length then (⟨0, 0, []⟩, 5) else
    if (decF (body, 0) [] ks).2 ≠ 0 then (⟨0, 0, []⟩, (decF (body, 0) [] ks).2) else (⟨ob, oc, (decF (body, 0) [] ks).1⟩, 0)

/-! what was encoded is decoded -/

theorem tidy_out {a : Ag} {k : Nat} (h : tidyB a k = true) : a.kd = (k : Int) ∧ (k ≠ 4 → a.ss = ⟨#[]⟩) ∧ (k ≠ 7 → a.bb = []) ∧ ((k = 4 ∨ k = 7) → a.nn = 0) := by
  unfold tidyB at h
  simp only [Bool.and_eq_true, Bool.or_eq_true, decide_eq_true_eq, Bool.not_eq_true', Bool.or_eq_false_iff, decide_eq_false_iff_not] at h
  obtain ⟨⟨⟨h1, h2⟩, h3⟩, h4⟩ := h
  refine ⟨h1, fun hk => ?_, fun hk => ?_, fun hk => ?_⟩
  · rcases h2 with h | h
    · exact absurd h hk
    · apply sl_inj
      exact List.eq_nil_of_length_eq_zero (by rw [sl_len]; exact h)
  · rcases h3 with h | h
    · exact absurd h hk
    · exact List.eq_nil_of_length_eq_zero h
  · rcases h4 with h | h
    · omega
    · exact h

theorem wrap32_back {n : Int} (h : -2147483648 ≤ n) (h2 : n < 2147483648) : wrap32 ((((n % 4294967296).toNat : Nat)) : Int) = n := by
  rw [Int.toNat_of_nonneg (by omega)]
  unfold wrap32
  omega

theorem read_back {a : Ag} {k : Nat} (hk : 1 ≤ k ∧ k ≤ 7) (ht : tidyB a k = true) (hr : rngB a = true) (hz : zerB a = false) (hb : bigB a = false) (r : List UInt8) : readG (encG a ++ r, 0) k = ((r, 0), a) := by
  obtain ⟨h1, h2, h3, h4⟩ := tidy_out ht
  unfold rngB at hr
  unfold zerB at hz
  unfold bigB at hb
  simp only [Bool.or_eq_false_iff, decide_eq_false_iff_not] at hz hb
  obtain ⟨kd, nn, ss, bb⟩ := a
  dsimp only at h1 h2 h3 h4 hr hz hb
  subst h1
  unfold readG encG
  dsimp only
  by_cases k4 : k = 4
  · subst k4
    obtain rfl := h3 (by omega)
    obtain rfl := h4 (by omega)
    rw [if_neg (by omega), if_pos rfl, if_pos (show ((4 : Nat) : Int) = 4 from rfl), str_enc (sl ss) r (by rw [sl_len]; omega) 1024 (by rw [sl_len]; omega) hz, sl_back]
  have e4 : ¬ ((k : Int) = 4) := by omega
  obtain rfl := h2 k4
  by_cases k7 : k = 7
  · subst k7
    obtain rfl := h4 (by omega)
    rw [if_neg (by omega), if_neg (by omega), if_pos rfl, if_neg e4, if_pos (show ((7 : Nat) : Int) = 7 from rfl), count_enc bb r (by omega) 1024 (by omega)]
  have e7 : ¬ ((k : Int) = 7) := by omega
  obtain rfl := h3 k7
  rw [if_neg k4, if_neg k7, if_neg e4, if_neg e7, num_enc _ (by omega) r]
  by_cases k1 : k = 1 ∨ k = 3
  · rw [if_pos k1]
    rw [if_pos (by omega)] at hr
    simp only [Bool.and_eq_true, decide_eq_true_eq] at hr
    rw [wrap32_back hr.1 hr.2]
  · rw [if_neg k1]
    rw [if_neg (by omega)] at hr
    have hn : 0 ≤ nn ∧ nn < 4294967296 := by
      split at hr
      · simp only [Bool.and_eq_true, decide_eq_true_eq] at hr
        exact hr
      · rw [if_pos (by omega)] at hr
        simp only [Bool.and_eq_true, decide_eq_true_eq] at hr
        omega
    rw [Int.toNat_of_nonneg (by omega), Int.emod_eq_of_lt hn.1 hn.2]

/-- arguments that Encode accepts for these kinds -/
def Good (l : List Ag) (ks : List Nat) : Prop := l.length = ks.length ∧ (∀ k ∈ ks, 1 ≤ k ∧ k ≤ 7) ∧ tidyAll l ks = true ∧ l.all rngB = true ∧ l.any zerB = false ∧ l.any bigB = false

theorem Good.cons {a : Ag} {l : List Ag} {k : Nat} {ks : List Nat} (h : Good (a :: l) (k :: ks)) : ((1 ≤ k ∧ k ≤ 7) ∧ tidyB a k = true ∧ rngB a = true ∧ zerB a = false ∧ bigB a = false) ∧ Good l ks := by
  obtain ⟨h0, h1, h2, h3, h4, h5⟩ := h
  simp only [tidyAll, Bool.and_eq_true, List.all_cons, List.any_cons, Bool.or_eq_false_iff] at h2 h3 h4 h5
  exact ⟨⟨h1 k (by simp), h2.1, h3.1, h4.1, h5.1⟩, by simpa using h0, fun k hk => h1 k (by simp [hk]), h2.2, h3.2, h4.2, h5.2⟩

theorem bod_cons (a : Ag) (l : List Ag) : bodT (a :: l) = encG a ++ bodT l := rfl

theorem dec_back : ∀ (l : List Ag) (ks : List Nat), Good l ks → ∀ (acc : List Ag) (r : List UInt8), decF (bodT l ++ r, 0) acc ks = decF (r, 0) (acc ++ l) []
  | [], [], _, acc, r => by simp [bodT]
  | [], k :: ks, h, _, _ => by have := h.1; simp at this
  | a :: l, [], h, _, _ => by have := h.1; simp at this
  | a :: l, k :: ks, h, acc, r => by
    obtain ⟨⟨hk, h1, h2, h3, h4⟩, hg⟩ := h.cons
    have e := read_back hk h1 h2 h3 h4 (bodT l ++ r)
    rw [bod_cons, List.append_assoc]
    conv => lhs; unfold decF
    rw [e]
    dsimp only
    rw [if_neg (by simp), h2, if_neg (by simp), dec_back l ks hg, List.append_assoc]
    rfl

theorem dec_good {l : List Ag} {ks : List Nat} (h : Good l ks) : decF (bodT l, 0) [] ks = (l, 0) := by
  have := dec_back l ks h [] []
  rw [List.append_nil, List.nil_append] at this
  rw [this]
  rfl

theorem dec_more {l : List Ag} {ks : List Nat} (h : Good l ks) {r : List UInt8} (hr : r ≠ []) : decF (bodT l ++ r, 0) [] ks = ([], 3) := by
  rw [dec_back l ks h [] r]
  have : 0 < r.length := List.length_pos_iff.2 hr
  simp [decF, endS, this]

/-- what a message that Encode accepts is -/
theorem chk_good {ks : List Nat} {m : Ms} (h : chkT (some ks) m = 0) (hk : ∀ k ∈ ks, 1 ≤ k ∧ k ≤ 7) : Good m.ags ks ∧ 0 ≤ m.oc ∧ m.oc ≤ 65535 := by
  unfold chkT at h
  dsimp only at h
  split at h
  · cases h
  rename_i h1
  split at h
  · cases h
  rename_i h2
  split at h
  · cases h
  rename_i h3
  split at h
  · cases h
  rename_i h4
  split at h
  · cases h
  rename_i h5
  split at h
  · cases h
  rename_i h6
  exact ⟨⟨by omega, hk, by simpa using h2, by simpa using h4, by simpa using h5, by simpa using h6⟩, by omega, by omega⟩

/-! two lists with the same encoding are equal -/

theorem bod_inj {l m : List Ag} {ks : List Nat} (h : Good l ks) (h' : Good m ks) (e : bodT l = bodT m) : l = m := by
  have a := dec_good h
  have b := dec_good h'
  rw [e, b] at a
  exact (congrArg Prod.fst a).symm

/-! a body that was cut off -/

theorem read_cut {a : Ag} {k : Nat} (hk : 1 ≤ k ∧ k ≤ 7) (ht : tidyB a k = true) (hb : bigB a = false) {q : Nat} (hq : q < (encG a).length) : (readG ((encG a).take q, 0) k).1 = ([], 4) := by
  obtain ⟨h1, h2, h3, h4⟩ := tidy_out ht
  unfold bigB at hb
  simp only [Bool.or_eq_false_iff, decide_eq_false_iff_not] at hb
  unfold encG at hq ⊢
  unfold readG
  rw [h1] at hq ⊢
  by_cases k4 : k = 4
  · subst k4
    rw [if_pos (show ((4 : Nat) : Int) = 4 from rfl)] at hq
    rw [if_pos (show ((4 : Nat) : Int) = 4 from rfl), if_neg (by omega), if_pos rfl]
    dsimp only
    rw [str_cut (sl a.ss) (by rw [sl_len]; omega) q hq 1024 (by rw [sl_len]; omega)]
  have e4 : ¬ ((k : Int) = 4) := by omega
  rw [if_neg e4] at hq
  rw [if_neg e4]
  by_cases k7 : k = 7
  · subst k7
    rw [if_pos (show ((7 : Nat) : Int) = 7 from rfl)] at hq
    rw [if_pos (show ((7 : Nat) : Int) = 7 from rfl), if_neg (by omega), if_neg (by omega), if_pos rfl]
    dsimp only
    rw [count_cut a.bb (by omega) q hq 1024 (by omega)]
  have e7 : ¬ ((k : Int) = 7) := by omega
  rw [if_neg e7] at hq
  rw [if_neg e7, if_neg k4, if_neg k7]
  have hs : ((enc4 (a.nn % 4294967296).toNat).take q).length < 4 := by
    rw [List.length_take]
    have : (enc4 (a.nn % 4294967296).toNat).length = 4 := rfl
    omega
  rw [num_short _ hs]
  split <;> rfl

theorem dec_cut : ∀ (l : List Ag) (ks : List Nat), Good l ks → ∀ (acc : List Ag) (q : Nat), q < (bodT l).length → decF ((bodT l).take q, 0) acc ks = ([], 4)
  | [], ks, _, _, q, hq => by simp [bodT] at hq
  | a :: l, [], h, _, _, _ => by have := h.1; simp at this
  | a :: l, k :: ks, h, acc, q, hq => by
    obtain ⟨⟨hk, h1, h2, h3, h4⟩, hg⟩ := h.cons
    rw [bod_cons] at hq ⊢
    conv => lhs; unfold decF
    by_cases hc : q < (encG a).length
    · rw [List.take_append_of_le_length (by omega)]
      rw [read_cut hk h1 h4 hc]
      simp
    · have e : (encG a ++ bodT l).take q = encG a ++ (bodT l).take (q - (encG a).length) := by
        rw [List.take_append, List.take_of_length_le (by omega)]
      rw [e, read_back hk h1 h2 h3 h4]
      dsimp only
      rw [if_neg (by simp), h2, if_neg (by simp)]
      rw [List.length_append] at hq
      exact dec_cut l ks hg _ _ (by omega)

end Go.Proofs.YtmpkjjmgfakomaaDoor
