/-
  What package wire computes, on lists of bytes: numbers, the state of a reader, encodings; what was written is read back, what was cut off is refused. No program is named here.
-/
import Derived.WalkKit
import Derived.IntWalk
namespace Go.Proofs.YtmpkjjmgfakomaaDoor.Wire
open Go.RowKit

theorem or_u32 (a b : Nat) (ha : a < 4294967296) (hb : b < 4294967296) : bits .or .u32 (a : Int) (b : Int) = ((a ||| b : Nat) : Int) := by
  have hx : a ||| b < 2 ^ 32 := Nat.or_lt_two_pow (by omega) (by omega)
  show IntKind.u32.wrap ((BitVec.ofInt 32 (a : Int) ||| BitVec.ofInt 32 (b : Int)).toNat : Int) = _
  have e : ∀ n : Nat, n < 4294967296 → (BitVec.ofInt 32 (n : Int)).toNat = n := fun n hn => by
    rw [BitVec.ofInt_natCast, BitVec.toNat_ofNat]; exact Nat.mod_eq_of_lt (by omega)
  rw [BitVec.toNat_or, e a ha, e b hb, IntKind.wrap_u32]
  omega

theorem or_add (a c k : Nat) (ha : a < 2 ^ k) : a ||| c * 2 ^ k = a + c * 2 ^ k := by
  have h := Nat.two_pow_add_eq_or_of_lt ha c
  rw [Nat.or_comm, Nat.mul_comm c, ← h, Nat.add_comm]

/-- the number of four bytes -/
def num4 (a b c d : Nat) : Nat := a + b * 256 + c * 65536 + d * 16777216

theorem num4_or (a b c d : Nat) (ha : a < 256) (hb : b < 256) (hc : c < 256) (hd : d < 256) :
    bits .or .u32 (bits .or .u32 (bits .or .u32 (a : Int) ((b : Int) * 256)) ((c : Int) * 65536)) ((d : Int) * 16777216) = (num4 a b c d : Int) := by
  have e1 : ((b : Int) * 256) = ((b * 2 ^ 8 : Nat) : Int) := by omega
  have e2 : ((c : Int) * 65536) = ((c * 2 ^ 16 : Nat) : Int) := by omega
  have e3 : ((d : Int) * 16777216) = ((d * 2 ^ 24 : Nat) : Int) := by omega
  rw [e1, e2, e3, or_u32 _ _ (by omega) (by omega), or_add a b 8 (by omega), or_u32 _ _ (by omega) (by omega), or_add _ c 16 (by omega), or_u32 _ _ (by omega) (by omega), or_add _ d 24 (by omega)]
  unfold num4
  omega

/-- what a reader holds: the unread bytes, and the error -/
abbrev St := List UInt8 × Int
def failS (s : St) (x : Int) : St := if s.2 = 0 then ([], x) else s
def at4 (bs : List UInt8) : Nat := num4 (bs.getD 0 0).toNat (bs.getD 1 0).toNat (bs.getD 2 0).toNat (bs.getD 3 0).toNat
def numS (s : St) : St × Nat := if s.1.length < 4 then (failS s 4, 0) else ((s.1.drop 4, s.2), at4 s.1)
/-- rounded up to a multiple of four -/
def up (n : Nat) : Nat := (n + 3) / 4 * 4
def limS (s : St) (n : Nat) (most : Int) : St := if max most 0 < (n : Int) then failS s 5 else s
def cutS (s : St) (n : Nat) : St × List UInt8 :=
  if s.1.length < up n then (failS s 4, []) else
  if (s.1.take (up n)).drop n = List.replicate (up n - n) 0 then ((s.1.drop (up n), s.2), s.1.take n) else (failS (s.1.drop (up n), s.2) 3, [])
def countS (s : St) (most : Int) : St × List UInt8 := cutS (limS (numS s).1 (numS s).2 most) (numS s).2
/-- a string: no byte of it may be zero -/
def strS (s : St) (most : Int) : St × List UInt8 := if (0 : UInt8) ∈ (countS s most).2 then (failS (countS s most).1 3, []) else countS s most
def endS (s : St) : Int := if s.2 = 0 ∧ 0 < s.1.length then 3 else s.2
/-- an error leaves no unread byte -/
def Fine (s : St) : Prop := s.2 ≠ 0 → s.1 = []

theorem at4_lt (bs : List UInt8) : at4 bs < 4294967296 := by
  have h : ∀ x : UInt8, x.toNat < 256 := fun x => x.toNat_lt
  have h0 := h (bs.getD 0 0); have h1 := h (bs.getD 1 0); have h2 := h (bs.getD 2 0); have h3 := h (bs.getD 3 0)
  unfold at4 num4
  omega

theorem Fine.fail {s : St} (x : Int) (h : Fine s) : Fine (failS s x) := by
  unfold failS
  split
  · intro _; rfl
  · exact h

/-- the four bytes of a number -/
def enc4 (n : Nat) : List UInt8 := [UInt8.ofNat n, UInt8.ofNat (n / 256), UInt8.ofNat (n / 65536), UInt8.ofNat (n / 16777216)]

def pad (n : Nat) : Nat := (4 - n % 4) % 4
/-- the encoding of an array -/
def encA (x : List UInt8) : List UInt8 := enc4 x.length ++ x ++ List.replicate (pad x.length) 0

theorem up_ge (n : Nat) : n ≤ up n ∧ up n ≤ n + 3 := by unfold up; omega

theorem fail_fst {s : St} (x : Int) (h : Fine s) : (failS s x).1 = [] := by
  unfold failS
  split
  · rfl
  · exact h ‹_›

theorem numS_lt (s : St) : (numS s).2 < 4294967296 := by
  unfold numS; split
  · simp
  · exact at4_lt _

theorem at4_enc (n : Nat) (hn : n < 4294967296) (r : List UInt8) : at4 (enc4 n ++ r) = n := by
  show num4 (UInt8.ofNat n).toNat (UInt8.ofNat (n / 256)).toNat (UInt8.ofNat (n / 65536)).toNat (UInt8.ofNat (n / 16777216)).toNat = n
  simp only [UInt8.toNat_ofNat', num4]
  omega

theorem num_enc (n : Nat) (hn : n < 4294967296) (r : List UInt8) : numS (enc4 n ++ r, 0) = ((r, 0), n) := by
  unfold numS
  rw [if_neg (by simp [enc4])]
  exact Prod.ext rfl (at4_enc n hn r)

theorem up_pad (n : Nat) : up n = n + pad n := by unfold up pad; omega

theorem count_lim (b r : List UInt8) (hb : b.length < 4294967296) (most : Int) (h : max most 0 < (b.length : Int)) : countS (encA b ++ r, 0) most = (([], 5), []) := by
  have e : encA b ++ r = enc4 b.length ++ (b ++ List.replicate (pad b.length) 0 ++ r) := by simp [encA, List.append_assoc]
  unfold countS
  rw [e, num_enc _ hb]
  dsimp only
  have e2 : limS (b ++ List.replicate (pad b.length) 0 ++ r, 0) b.length most = ([], 5) := by
    rw [limS, if_pos h]; rfl
  rw [e2, cutS, if_pos (by have := up_ge b.length; simp only [List.length_nil]; omega)]
  rfl

theorem count_enc (b r : List UInt8) (hb : b.length < 4294967296) (most : Int) (h : (b.length : Int) ≤ max most 0) : countS (encA b ++ r, 0) most = ((r, 0), b) := by
  have e : encA b ++ r = enc4 b.length ++ (b ++ List.replicate (pad b.length) 0 ++ r) := by simp [encA, List.append_assoc]
  unfold countS
  rw [e, num_enc _ hb]
  dsimp only
  have hup := up_pad b.length
  have hl : (b ++ List.replicate (pad b.length) (0 : UInt8)).length = up b.length := by simp [hup]
  have e2 : limS (b ++ List.replicate (pad b.length) 0 ++ r, 0) b.length most = (b ++ List.replicate (pad b.length) 0 ++ r, 0) := by
    rw [limS, if_neg (by omega)]
  have ht : (b ++ List.replicate (pad b.length) (0 : UInt8) ++ r).take (up b.length) = b ++ List.replicate (pad b.length) 0 := by
    rw [← hl]; exact List.take_left
  have hd : (b ++ List.replicate (pad b.length) (0 : UInt8) ++ r).drop (up b.length) = r := by
    rw [← hl]; exact List.drop_left
  rw [e2, cutS]
  dsimp only
  rw [if_neg (by rw [List.length_append, hl]; omega), ht, hd, List.drop_left, if_pos (by rw [hup]; congr 1; omega), List.append_assoc, List.take_left]

theorem str_enc (b r : List UInt8) (hb : b.length < 4294967296) (most : Int) (h : (b.length : Int) ≤ max most 0) (hz : (0 : UInt8) ∉ b) : strS (encA b ++ r, 0) most = ((r, 0), b) := by
  rw [strS, count_enc b r hb most h, if_neg hz]

theorem str_lim (b r : List UInt8) (hb : b.length < 4294967296) (most : Int) (h : max most 0 < (b.length : Int)) : strS (encA b ++ r, 0) most = (([], 5), []) := by
  rw [strS, count_lim b r hb most h, if_neg (by simp)]

theorem fine_num {s : St} (h : Fine s) : Fine (numS s).1 := by
  unfold numS
  split
  · exact h.fail 4
  · intro he
    simp only at he ⊢
    rw [h he]; rfl

theorem drop_le (s : St) (x : Int) (h : Fine s) : (failS s x).1.length ≤ s.1.length := by
  rw [fail_fst x h]; simp

theorem num_le (s : St) (h : Fine s) : (numS s).1.1.length ≤ s.1.length := by
  unfold numS
  split
  · exact drop_le s 4 h
  · simp

theorem cut_le (s : St) (n : Nat) : (cutS s n).2.length ≤ s.1.length := by
  unfold cutS
  split
  · simp
  · split
    · simp; omega
    · simp

theorem count_le (s : St) (most : Int) (h : Fine s) : (countS s most).2.length ≤ s.1.length := by
  have h1 := num_le s h
  have h2 := cut_le (limS (numS s).1 (numS s).2 most) (numS s).2
  have h3 : (limS (numS s).1 (numS s).2 most).1.length ≤ (numS s).1.1.length := by
    unfold limS; split
    · exact drop_le _ 5 (fine_num h)
    · exact Nat.le_refl _
  unfold countS
  omega

theorem str_le (s : St) (most : Int) (h : Fine s) : (strS s most).2.length ≤ s.1.length := by
  unfold strS
  split
  · simp
  · exact count_le s most h

theorem num_short (bs : List UInt8) (h : bs.length < 4) : numS (bs, 0) = (([], 4), 0) := by
  unfold numS
  rw [if_pos h]; rfl

theorem num_stuck : numS ([], 4) = (([], 4), 0) := by decide

theorem count_stuck (most : Int) : cutS (limS ([], 4) 0 most) 0 = (([], 4), []) := by
  have h : limS ([], 4) 0 most = ([], 4) := by
    unfold limS failS; split <;> simp
  rw [h]; decide

theorem count_cut (b : List UInt8) (hb : b.length < 4294967296) (q : Nat) (hq : q < (encA b).length) (most : Int) (h : (b.length : Int) ≤ max most 0) : countS ((encA b).take q, 0) most = (([], 4), []) := by
  have hl : (encA b).length = 4 + up b.length := by
    have := up_pad b.length
    simp [encA, enc4]; omega
  unfold countS
  by_cases h4 : q < 4
  · rw [num_short _ (by rw [List.length_take]; omega)]
    exact count_stuck most
  · have e : (encA b).take q = enc4 b.length ++ (b ++ List.replicate (pad b.length) 0).take (q - 4) := by
      rw [encA, List.append_assoc, List.take_append]
      have : (enc4 b.length).take q = enc4 b.length := List.take_of_length_le (by simp [enc4]; omega)
      rw [this]; rfl
    rw [e, num_enc _ hb]
    dsimp only
    rw [limS, if_neg (by omega), cutS]
    dsimp only
    rw [if_pos (by rw [List.length_take]; omega)]
    rfl

theorem str_cut (b : List UInt8) (hb : b.length < 4294967296) (q : Nat) (hq : q < (encA b).length) (most : Int) (h : (b.length : Int) ≤ max most 0) : strS ((encA b).take q, 0) most = (([], 4), []) := by
  unfold strS; rw [count_cut b hb q hq most h]; simp

end Go.Proofs.YtmpkjjmgfakomaaDoor.Wire
