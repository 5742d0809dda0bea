/-
  What package frame computes, on lists of bytes; no program is named here.
-/
import Derived.WalkKit
namespace Go.Proofs.Ytfmknjfhalkfhaa.Wire
open Go.RowKit

theorem or_u32 (a b : Nat) (ha : a < 4294967296) (hb : b < 4294967296) : bits .or .u32 (a : Int) (b : Int) = ((a ||| b : Nat) : Int) := by
  have hx : a ||| b < 2 ^ 32 := Nat.or_lt_two_pow (by omega) (by omega)
  show IntKind.u32.wrap ((BitVec.ofInt 32 (a : Int) ||| BitVec.ofInt 32 (b : Int)).toNat : Int) = _
  have e : ∀ n : Nat, n < 4294967296 → (BitVec.ofInt 32 (n : Int)).toNat = n := fun n hn => by
    rw [BitVec.ofInt_natCast, BitVec.toNat_ofNat]; exact Nat.mod_eq_of_lt (by omega)
  rw [BitVec.toNat_or, e a ha, e b hb, IntKind.wrap_u32]
  omega

theorem or_add (a c k : Nat) (ha : a < 2 ^ k) : a ||| c * 2 ^ k = a + c * 2 ^ k := by
  have h := Nat.two_pow_add_eq_or_of_lt ha c
  rw [Nat.or_comm, Nat.mul_comm c, ← h, Nat.add_comm]

/-- the number of four bytes -/
def num4 (a b c d : Nat) : Nat := a + b * 256 + c * 65536 + d * 16777216

theorem num4_or (a b c d : Nat) (ha : a < 256) (hb : b < 256) (hc : c < 256) (hd : d < 256) :
    bits .or .u32 (bits .or .u32 (bits .or .u32 (a : Int) ((b : Int) * 256)) ((c : Int) * 65536)) ((d : Int) * 16777216) = (num4 a b c d : Int) := by
  have e1 : ((b : Int) * 256) = ((b * 2 ^ 8 : Nat) : Int) := by omega
  have e2 : ((c : Int) * 65536) = ((c * 2 ^ 16 : Nat) : Int) := by omega
  have e3 : ((d : Int) * 16777216) = ((d * 2 ^ 24 : Nat) : Int) := by omega
  rw [e1, e2, e3, or_u32 _ _ (by omega) (by omega), or_add a b 8 (by omega), or_u32 _ _ (by omega) (by omega), or_add _ c 16 (by omega), or_u32 _ _ (by omega) (by omega), or_add _ d 24 (by omega)]
  unfold num4
  omega

def at4 (bs : List UInt8) : Nat := num4 (bs.getD 0 0).toNat (bs.getD 1 0).toNat (bs.getD 2 0).toNat (bs.getD 3 0).toNat

theorem at4_lt (bs : List UInt8) : at4 bs < 4294967296 := by
  have h : ∀ x : UInt8, x.toNat < 256 := fun x => x.toNat_lt
  have h0 := h (bs.getD 0 0); have h1 := h (bs.getD 1 0); have h2 := h (bs.getD 2 0); have h3 := h (bs.getD 3 0)
  unfold at4 num4
  omega

/-- the four bytes of a number -/
def enc4 (n : Nat) : List UInt8 := [UInt8.ofNat n, UInt8.ofNat (n / 256), UInt8.ofNat (n / 65536), UInt8.ofNat (n / 16777216)]

theorem at4_enc4 (n : Nat) (hn : n < 4294967296) (ys : List UInt8) : at4 (enc4 n ++ ys) = n := by
  simp only [at4, enc4, List.cons_append, List.nil_append, List.getD_cons_zero, List.getD_cons_succ, num4, UInt8.toNat_ofNat']
  omega

/-- a frame: its object, its opcode, its body -/
structure Fr where
  o : Nat
  c : Int
  b : List UInt8

/-- the second number of the header in front of bs: the size, and the opcode -/
def sizeAt (bs : List UInt8) : Nat := at4 (bs.drop 4) / 65536
def frameAt (bs : List UInt8) : Fr := ⟨at4 bs, ((at4 (bs.drop 4) % 65536 : Nat) : Int), (bs.take (sizeAt bs)).drop 8⟩
/-- the error of a header with this size -/
def sizeErr (n : Nat) : Int := if n < 8 ∨ n % 4 ≠ 0 then 3 else if 4096 < n then 5 else 0

theorem sizeErr_zero {n : Nat} (h : sizeErr n = 0) : 8 ≤ n ∧ n % 4 = 0 ∧ n ≤ 4096 := by
  unfold sizeErr at h
  split at h
  · cases h
  · split at h
    · cases h
    · omega

/-- the splitting of bytes, over any sizes, errors and frames -/
def splitG (sz : List UInt8 → Nat) (er : Nat → Int) (fr : List UInt8 → Fr) : Nat → List UInt8 → List Fr × List UInt8 × Int
  | 0, bs => ([], bs, 0)
  | k + 1, bs => if bs.length < 8 then ([], bs, 0) else if er (sz bs) ≠ 0 then ([], bs, er (sz bs)) else if bs.length < sz bs then ([], bs, 0) else
    (fr bs :: (splitG sz er fr k (bs.drop (sz bs))).1, (splitG sz er fr k (bs.drop (sz bs))).2)

section
variable {sz : List UInt8 → Nat} {er : Nat → Int} {fr : List UInt8 → Fr}

theorem splitG_succ (k : Nat) (bs : List UInt8) : splitG sz er fr (k + 1) bs = if bs.length < 8 then ([], bs, 0) else if er (sz bs) ≠ 0 then ([], bs, er (sz bs)) else if bs.length < sz bs then ([], bs, 0) else
    (fr bs :: (splitG sz er fr k (bs.drop (sz bs))).1, (splitG sz er fr k (bs.drop (sz bs))).2) := rfl

theorem splitG_fuel (h8 : ∀ n, er n = 0 → 8 ≤ n) : ∀ (k m : Nat) (bs : List UInt8), bs.length ≤ k → bs.length ≤ m → splitG sz er fr k bs = splitG sz er fr m bs
  | 0, 0, _, _, _ => rfl
  | 0, m + 1, bs, h, _ => by rw [splitG_succ, if_pos (by omega)]; rfl
  | k + 1, 0, bs, _, h => by rw [splitG_succ, if_pos (by omega)]; rfl
  | k + 1, m + 1, bs, h1, h2 => by
    rw [splitG_succ, splitG_succ]
    by_cases a : bs.length < 8
    · rw [if_pos a, if_pos a]
    · rw [if_neg a, if_neg a]
      by_cases b : er (sz bs) = 0
      · rw [if_neg (not_not_intro b), if_neg (not_not_intro b)]
        by_cases c : bs.length < sz bs
        · rw [if_pos c, if_pos c]
        · have := h8 _ b
          rw [if_neg c, if_neg c, splitG_fuel h8 k m _ (by rw [List.length_drop]; omega) (by rw [List.length_drop]; omega)]
      · rw [if_pos b, if_pos b]

theorem splitG_short {k : Nat} {bs : List UInt8} (h : bs.length < 8) : splitG sz er fr k bs = ([], bs, 0) := by
  cases k with
  | zero => rfl
  | succ k => rw [splitG_succ, if_pos h]
theorem splitG_bad {bs : List UInt8} (h : ¬ bs.length < 8) (he : er (sz bs) ≠ 0) : splitG sz er fr bs.length bs = ([], bs, er (sz bs)) := by
  obtain ⟨k, hk⟩ : ∃ k, bs.length = k + 1 := ⟨bs.length - 1, by omega⟩
  rw [hk, splitG_succ, if_neg h, if_pos he]
theorem splitG_cut {bs : List UInt8} (h : ¬ bs.length < 8) (he : er (sz bs) = 0) (hl : bs.length < sz bs) : splitG sz er fr bs.length bs = ([], bs, 0) := by
  obtain ⟨k, hk⟩ : ∃ k, bs.length = k + 1 := ⟨bs.length - 1, by omega⟩
  rw [hk, splitG_succ, if_neg h, if_neg (not_not_intro he), if_pos hl]
theorem splitG_more (h8 : ∀ n, er n = 0 → 8 ≤ n) {bs : List UInt8} (h : ¬ bs.length < 8) (he : er (sz bs) = 0) (hl : ¬ bs.length < sz bs) :
    splitG sz er fr bs.length bs = (fr bs :: (splitG sz er fr (bs.drop (sz bs)).length (bs.drop (sz bs))).1, (splitG sz er fr (bs.drop (sz bs)).length (bs.drop (sz bs))).2) := by
  obtain ⟨k, hk⟩ : ∃ k, bs.length = k + 1 := ⟨bs.length - 1, by omega⟩
  have := h8 _ he
  conv => lhs; rw [hk, splitG_succ, if_neg h, if_neg (not_not_intro he), if_neg hl, splitG_fuel h8 k (bs.drop (sz bs)).length _ (by rw [List.length_drop]; omega) (Nat.le_refl _)]

/-- the bytes that frames take -/
def taken : List Fr → Nat
  | [] => 0
  | f :: l => 8 + f.b.length + taken l

theorem taken_append (l m : List Fr) : taken (l ++ m) = taken l + taken m := by
  induction l with
  | nil => simp [taken]
  | cons f l ih => simp only [List.cons_append, taken, ih]; omega

theorem splitG_ind (h8 : ∀ n, er n = 0 → 8 ≤ n) {P : List UInt8 → Prop} (h1 : ∀ bs, bs.length < 8 → P bs) (h2 : ∀ bs, ¬ bs.length < 8 → er (sz bs) ≠ 0 → P bs)
    (h3 : ∀ bs, ¬ bs.length < 8 → er (sz bs) = 0 → bs.length < sz bs → P bs)
    (h4 : ∀ bs, ¬ bs.length < 8 → er (sz bs) = 0 → ¬ bs.length < sz bs → P (bs.drop (sz bs)) → P bs) : ∀ bs, P bs := by
  intro bs
  generalize hn : bs.length = n
  induction n using Nat.strongRecOn generalizing bs with
  | ind n ih =>
    by_cases a : bs.length < 8
    · exact h1 bs a
    · by_cases b : er (sz bs) = 0
      · by_cases c : bs.length < sz bs
        · exact h3 bs a b c
        · have := h8 _ b
          exact h4 bs a b c (ih _ (by simp only [List.length_drop]; omega) _ rfl)
      · exact h2 bs a b

theorem splitG_length (h8 : ∀ n, er n = 0 → 8 ≤ n) (hfr : ∀ bs, er (sz bs) = 0 → ¬ bs.length < sz bs → 8 + (fr bs).b.length = sz bs) (bs : List UInt8) :
    taken (splitG sz er fr bs.length bs).1 + (splitG sz er fr bs.length bs).2.1.length = bs.length := by
  refine splitG_ind (er := er) (sz := sz) h8 (P := fun bs => taken (splitG sz er fr bs.length bs).1 + (splitG sz er fr bs.length bs).2.1.length = bs.length) ?_ ?_ ?_ ?_ bs
  · intro bs h; rw [splitG_short h]; simp [taken]
  · intro bs h he; rw [splitG_bad h he]; simp [taken]
  · intro bs h he hl; rw [splitG_cut h he hl]; simp [taken]
  · intro bs h he hl ih
    have := hfr bs he hl
    rw [splitG_more h8 h he hl]
    simp only [taken]
    have e : (bs.drop (sz bs)).length = bs.length - sz bs := List.length_drop
    omega

section
variable (h8 : ∀ n, er n = 0 → 8 ≤ n) (hsz : ∀ xs ys : List UInt8, ¬ xs.length < 8 → sz (xs ++ ys) = sz xs) (hfa : ∀ xs ys : List UInt8, ¬ xs.length < 8 → ¬ xs.length < sz xs → fr (xs ++ ys) = fr xs)
include h8 hsz hfa

theorem splitG_step (bs ys : List UInt8) (h : ¬ bs.length < 8) (he : er (sz bs) = 0) (hl : ¬ bs.length < sz bs) :
    splitG sz er fr (bs ++ ys).length (bs ++ ys) = (fr bs :: (splitG sz er fr (bs.drop (sz bs) ++ ys).length (bs.drop (sz bs) ++ ys)).1, (splitG sz er fr (bs.drop (sz bs) ++ ys).length (bs.drop (sz bs) ++ ys)).2) := by
  have h' : ¬ (bs ++ ys).length < 8 := by simp only [List.length_append]; omega
  have hl' : ¬ (bs ++ ys).length < sz (bs ++ ys) := by rw [hsz bs ys h]; simp only [List.length_append]; omega
  rw [splitG_more h8 h' (by rw [hsz bs ys h]; exact he) hl', hsz bs ys h, hfa bs ys h hl, List.drop_append_of_le_length (by omega)]

theorem splitG_app_ok (xs ys : List UInt8) : (splitG sz er fr xs.length xs).2.2 = 0 →
    splitG sz er fr (xs ++ ys).length (xs ++ ys) = ((splitG sz er fr xs.length xs).1 ++ (splitG sz er fr ((splitG sz er fr xs.length xs).2.1 ++ ys).length ((splitG sz er fr xs.length xs).2.1 ++ ys)).1, (splitG sz er fr ((splitG sz er fr xs.length xs).2.1 ++ ys).length ((splitG sz er fr xs.length xs).2.1 ++ ys)).2) := by
  refine splitG_ind (er := er) (sz := sz) h8 (P := fun xs => (splitG sz er fr xs.length xs).2.2 = 0 →
    splitG sz er fr (xs ++ ys).length (xs ++ ys) = ((splitG sz er fr xs.length xs).1 ++ (splitG sz er fr ((splitG sz er fr xs.length xs).2.1 ++ ys).length ((splitG sz er fr xs.length xs).2.1 ++ ys)).1, (splitG sz er fr ((splitG sz er fr xs.length xs).2.1 ++ ys).length ((splitG sz er fr xs.length xs).2.1 ++ ys)).2)) ?_ ?_ ?_ ?_ xs
  · intro bs h _; rw [splitG_short h]; simp
  · intro bs h he h0; rw [splitG_bad h he] at h0; exact absurd h0 he
  · intro bs h he hl _; rw [splitG_cut h he hl]; simp
  · intro bs h he hl ih h0
    rw [splitG_more h8 h he hl] at h0
    rw [splitG_step h8 hsz hfa bs ys h he hl, ih h0, splitG_more h8 h he hl]
    rfl

theorem splitG_app_err (xs ys : List UInt8) : (splitG sz er fr xs.length xs).2.2 ≠ 0 →
    (splitG sz er fr (xs ++ ys).length (xs ++ ys)).1 = (splitG sz er fr xs.length xs).1 ∧ (splitG sz er fr (xs ++ ys).length (xs ++ ys)).2.2 = (splitG sz er fr xs.length xs).2.2 := by
  refine splitG_ind (er := er) (sz := sz) h8 (P := fun xs => (splitG sz er fr xs.length xs).2.2 ≠ 0 →
    (splitG sz er fr (xs ++ ys).length (xs ++ ys)).1 = (splitG sz er fr xs.length xs).1 ∧ (splitG sz er fr (xs ++ ys).length (xs ++ ys)).2.2 = (splitG sz er fr xs.length xs).2.2) ?_ ?_ ?_ ?_ xs
  · intro bs h h0; rw [splitG_short h] at h0; exact absurd rfl h0
  · intro bs h he _
    have h' : ¬ (bs ++ ys).length < 8 := by simp only [List.length_append]; omega
    rw [splitG_bad h he, splitG_bad h' (by rw [hsz bs ys h]; exact he), hsz bs ys h]
    exact ⟨rfl, rfl⟩
  · intro bs h he hl h0; rw [splitG_cut h he hl] at h0; exact absurd rfl h0
  · intro bs h he hl ih h0
    rw [splitG_more h8 h he hl] at h0
    have ih := ih h0
    rw [splitG_step h8 hsz hfa bs ys h he hl, splitG_more h8 h he hl]
    exact ⟨by rw [ih.1], ih.2⟩
end

/-- what is left holds no complete frame -/
theorem splitG_rest (h8 : ∀ n, er n = 0 → 8 ≤ n) (bs : List UInt8) : (splitG sz er fr bs.length bs).2.2 = 0 →
    splitG sz er fr (splitG sz er fr bs.length bs).2.1.length (splitG sz er fr bs.length bs).2.1 = ([], (splitG sz er fr bs.length bs).2.1, 0) := by
  refine splitG_ind (er := er) (sz := sz) h8 (P := fun bs => (splitG sz er fr bs.length bs).2.2 = 0 →
    splitG sz er fr (splitG sz er fr bs.length bs).2.1.length (splitG sz er fr bs.length bs).2.1 = ([], (splitG sz er fr bs.length bs).2.1, 0)) ?_ ?_ ?_ ?_ bs
  · intro bs h _; rw [splitG_short h]; exact splitG_short h
  · intro bs h he h0; rw [splitG_bad h he] at h0; exact absurd h0 he
  · intro bs h he hl _; rw [splitG_cut h he hl]; exact splitG_cut h he hl
  · intro bs h he hl ih h0
    rw [splitG_more h8 h he hl] at h0 ⊢
    exact ih h0

/-- bytes e in front, of the size that their header tells -/
theorem splitG_front (h8 : ∀ n, er n = 0 → 8 ≤ n) (e ys : List UInt8) (f : Fr) (h0 : ¬ e.length < 8) (h1 : sz (e ++ ys) = e.length) (h2 : er (sz (e ++ ys)) = 0) (h3 : fr (e ++ ys) = f) :
    splitG sz er fr (e ++ ys).length (e ++ ys) = (f :: (splitG sz er fr ys.length ys).1, (splitG sz er fr ys.length ys).2) := by
  have ed : (e ++ ys).drop (sz (e ++ ys)) = ys := by rw [h1, List.drop_left]
  rw [splitG_more h8 (by simp only [List.length_append]; omega) h2 (by rw [h1]; simp only [List.length_append]; omega), ed, h3]

theorem splitG_early (hsz : ∀ xs ys : List UInt8, ¬ xs.length < 8 → sz (xs ++ ys) = sz xs) (e : List UInt8) (n : Nat) (hn : n < e.length) (h1 : sz e = e.length) (h2 : er (sz e) = 0) :
    splitG sz er fr (e.take n).length (e.take n) = ([], e.take n, 0) := by
  have hxl : (e.take n).length = n := by rw [List.length_take]; omega
  by_cases h : (e.take n).length < 8
  · exact splitG_short h
  · have hs := hsz (e.take n) (e.drop n) h
    rw [List.take_append_drop] at hs
    exact splitG_cut h (by rw [← hs]; exact h2) (by rw [← hs, h1, hxl]; exact hn)
end

theorem frameAt_body {bs : List UInt8} (he : sizeErr (sizeAt bs) = 0) (hl : ¬ bs.length < sizeAt bs) : 8 + (frameAt bs).b.length = sizeAt bs := by
  have := sizeErr_zero he
  have e : (frameAt bs).b = (bs.take (sizeAt bs)).drop 8 := rfl
  rw [e]
  generalize sizeAt bs = n at *
  rw [List.length_drop, List.length_take]
  omega

theorem getD_app {xs ys : List UInt8} {j : Nat} (h : j < xs.length) : (xs ++ ys).getD j 0 = xs.getD j 0 := by
  rw [List.getD, List.getD, List.getElem?_append_left h]

theorem at4_app {xs : List UInt8} (ys : List UInt8) (h : 4 ≤ xs.length) : at4 (xs ++ ys) = at4 xs := by
  unfold at4
  rw [getD_app (by omega), getD_app (by omega), getD_app (by omega), getD_app (by omega)]

theorem sizeAt_app (xs ys : List UInt8) (h : ¬ xs.length < 8) : sizeAt (xs ++ ys) = sizeAt xs := by
  unfold sizeAt
  rw [List.drop_append_of_le_length (by omega), at4_app ys (by simp only [List.length_drop]; omega)]

theorem frameAt_app (xs ys : List UInt8) (h : ¬ xs.length < 8) (hl : ¬ xs.length < sizeAt xs) : frameAt (xs ++ ys) = frameAt xs := by
  have e1 := at4_app (xs := xs) ys (by omega)
  have e2 : at4 ((xs ++ ys).drop 4) = at4 (xs.drop 4) := by rw [List.drop_append_of_le_length (by omega), at4_app ys (by simp only [List.length_drop]; omega)]
  have e3 : (xs ++ ys).take (sizeAt xs) = xs.take (sizeAt xs) := List.take_append_of_le_length (by omega)
  unfold frameAt
  rw [sizeAt_app xs ys h, e1, e2, e3]

/-- the frames in front of bs, the bytes that are left, and the error -/
def splitS (bs : List UInt8) : List Fr × List UInt8 × Int := splitG sizeAt sizeErr frameAt bs.length bs

theorem err8 : ∀ n, sizeErr n = 0 → 8 ≤ n := fun _ h => (sizeErr_zero h).1
theorem split_short {bs : List UInt8} (h : bs.length < 8) : splitS bs = ([], bs, 0) := splitG_short h
theorem split_bad {bs : List UInt8} (h : ¬ bs.length < 8) (he : sizeErr (sizeAt bs) ≠ 0) : splitS bs = ([], bs, sizeErr (sizeAt bs)) := splitG_bad h he
theorem split_cut {bs : List UInt8} (h : ¬ bs.length < 8) (he : sizeErr (sizeAt bs) = 0) (hl : bs.length < sizeAt bs) : splitS bs = ([], bs, 0) := splitG_cut h he hl
theorem split_more {bs : List UInt8} (h : ¬ bs.length < 8) (he : sizeErr (sizeAt bs) = 0) (hl : ¬ bs.length < sizeAt bs) :
    splitS bs = (frameAt bs :: (splitS (bs.drop (sizeAt bs))).1, (splitS (bs.drop (sizeAt bs))).2) := splitG_more err8 h he hl
theorem split_length (bs : List UInt8) : taken (splitS bs).1 + (splitS bs).2.1.length = bs.length := splitG_length err8 (fun _ => frameAt_body) bs
theorem split_app_ok (xs ys : List UInt8) (h0 : (splitS xs).2.2 = 0) :
    splitS (xs ++ ys) = ((splitS xs).1 ++ (splitS ((splitS xs).2.1 ++ ys)).1, (splitS ((splitS xs).2.1 ++ ys)).2) := splitG_app_ok err8 sizeAt_app frameAt_app xs ys h0
theorem split_app_err (xs ys : List UInt8) (h0 : (splitS xs).2.2 ≠ 0) :
    (splitS (xs ++ ys)).1 = (splitS xs).1 ∧ (splitS (xs ++ ys)).2.2 = (splitS xs).2.2 := splitG_app_err err8 sizeAt_app frameAt_app xs ys h0
theorem split_rest (bs : List UInt8) (h0 : (splitS bs).2.2 = 0) : splitS (splitS bs).2.1 = ([], (splitS bs).2.1, 0) := splitG_rest err8 bs h0

/-- a frame that has an encoding -/
def Fr.fits (f : Fr) : Prop := f.o < 4294967296 ∧ 0 ≤ f.c ∧ f.c < 65536 ∧ f.b.length % 4 = 0 ∧ f.b.length ≤ 4088
/-- the error of Put -/
def Fr.err (f : Fr) : Int := if f.c < 0 ∨ 65536 ≤ f.c then 6 else if f.b.length % 4 ≠ 0 then 2 else if 4096 < 8 + f.b.length then 5 else 0
def Fr.second (f : Fr) : Nat := (8 + f.b.length) * 65536 + f.c.toNat
/-- the encoding of a frame -/
def Fr.enc (f : Fr) : List UInt8 := enc4 f.o ++ enc4 f.second ++ f.b

theorem Fr.fits_of {f : Fr} (ho : f.o < 4294967296) (h : f.err = 0) : f.fits := by
  unfold Fr.err at h
  split at h
  · cases h
  · split at h
    · cases h
    · split at h
      · cases h
      · exact ⟨ho, by omega, by omega, by omega, by omega⟩

theorem Fr.enc_length (f : Fr) : f.enc.length = 8 + f.b.length := by simp [Fr.enc, enc4]; omega

theorem Fr.second_lt {f : Fr} (h : f.fits) : f.second < 4294967296 := by
  obtain ⟨_, h1, h2, _, h4⟩ := h
  unfold Fr.second
  omega

theorem enc_sizeAt {f : Fr} (h : f.fits) (ys : List UInt8) : sizeAt (f.enc ++ ys) = 8 + f.b.length := by
  have h2 := Fr.second_lt h
  obtain ⟨_, h1, h3, _, h4⟩ := h
  have e : (f.enc ++ ys).drop 4 = enc4 f.second ++ (f.b ++ ys) := by simp [Fr.enc, enc4]
  unfold sizeAt
  rw [e, at4_enc4 _ h2]
  unfold Fr.second
  omega

theorem enc_sizeErr {f : Fr} (h : f.fits) (ys : List UInt8) : sizeErr (sizeAt (f.enc ++ ys)) = 0 := by
  rw [enc_sizeAt h]
  obtain ⟨_, _, _, h3, h4⟩ := h
  unfold sizeErr
  rw [if_neg (by omega), if_neg (by omega)]

theorem enc_frameAt {f : Fr} (h : f.fits) (ys : List UInt8) : frameAt (f.enc ++ ys) = f := by
  have h2 := Fr.second_lt h
  have hs := enc_sizeAt h ys
  obtain ⟨h0, h1, h3, _, h4⟩ := h
  have e : (f.enc ++ ys).drop 4 = enc4 f.second ++ (f.b ++ ys) := by simp [Fr.enc, enc4]
  have e0 : f.enc ++ ys = enc4 f.o ++ (enc4 f.second ++ (f.b ++ ys)) := by simp [Fr.enc]
  unfold frameAt
  rw [hs, e, at4_enc4 _ h2, ← f.enc_length, List.take_left]
  have e8 : f.enc.drop 8 = f.b := by simp [Fr.enc, enc4]
  rw [e8, e0, at4_enc4 _ h0]
  have e3 : ((f.second % 65536 : Nat) : Int) = f.c := by unfold Fr.second; omega
  rw [e3]

theorem split_enc {f : Fr} (h : f.fits) (ys : List UInt8) : splitS (f.enc ++ ys) = (f :: (splitS ys).1, (splitS ys).2) :=
  splitG_front err8 f.enc ys f (by rw [f.enc_length]; omega) (by rw [enc_sizeAt h, f.enc_length]) (enc_sizeErr h ys) (enc_frameAt h ys)

/-- a frame that ends too early -/
theorem split_early {f : Fr} (h : f.fits) {n : Nat} (hn : n < f.enc.length) : splitS (f.enc.take n) = ([], f.enc.take n, 0) := by
  have h1 := enc_sizeAt h []
  have h2 := enc_sizeErr h []
  rw [List.append_nil] at h1 h2
  exact splitG_early sizeAt_app f.enc n hn (by rw [h1, f.enc_length]) h2

def encs (l : List Fr) : List UInt8 := l.flatMap Fr.enc

theorem split_encs (l : List Fr) (h : ∀ f ∈ l, f.fits) (ys : List UInt8) : splitS (encs l ++ ys) = (l ++ (splitS ys).1, (splitS ys).2) := by
  induction l with
  | nil => simp [encs]
  | cons f l ih =>
    have e : encs (f :: l) ++ ys = f.enc ++ (encs l ++ ys) := by simp [encs]
    rw [e, split_enc (h f (List.mem_cons_self ..)), ih (fun g hg => h g (List.mem_cons_of_mem _ hg))]
    rfl

theorem split_encs_all (l : List Fr) (h : ∀ f ∈ l, f.fits) : splitS (encs l) = (l, [], 0) := by
  have := split_encs l h []
  rw [List.append_nil] at this
  rw [this, split_short (bs := []) (by simp)]
  simp

/-- what Feed does to the buffered bytes: the frames, the error, the bytes -/
def feedS (buf : List UInt8) (closed : Bool) (p : List UInt8) : List Fr × Int × List UInt8 × Bool :=
  if closed then ([], 20, buf, true) else
  if (splitS (buf ++ p)).2.2 = 0 then ((splitS (buf ++ p)).1, 0, (splitS (buf ++ p)).2.1, false) else ((splitS (buf ++ p)).1, (splitS (buf ++ p)).2.2, [], true)

end Go.Proofs.Ytfmknjfhalkfhaa.Wire
